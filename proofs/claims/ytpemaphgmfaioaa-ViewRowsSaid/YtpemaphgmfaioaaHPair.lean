/-
  Keys as the program keeps them: the walks of From, Made, Secret, Uses.
-/
import Derived.Test.YtpemaphgmfaioaaHBase
import Derived.Test.YtpemaphgmfaioaaHPow
import Derived.Laws.LoneSync
import Derived.RegionCalls
import Derived.Defers
import Derived.Tactics2
import Derived.RegionTactic
import Derived.ChangeAlike
import Derived.Test.YtpemaphgmfaioaaHSumR
import Derived.Laws.ResultCell
import Derived.Test.YtpemaphgmfaioaaHSum
namespace Go.Proofs.Ytpemaphgmfaioaa
set_option maxRecDepth 100000
open Go.RowKit
set_option linter.unusedVariables false
set_option linter.unusedSimpArgs false

/-- a key: its secret number, whether it is done, its public number, whether that was worked out, its uses -/
abbrev CK (s dn pub md us : Int) : Array Value := #[.int .i64 s, .int .u32 dn, .int .i32 0, .int .u32 0, .int .i64 pub, .int .u32 md, .int .i64 us]
theorem Blk.key {w : World} {g : Nat} {t : TypeId} {s dn pub md us : Int} (h : Blk w g (CK s dn pub md us) t) :
    w.cell? ⟨g, 0, none⟩ = some (.int .i64 s) ∧ w.cell? ⟨g, 1, none⟩ = some (.int .u32 dn) ∧ w.cell? ⟨g, 2, none⟩ = some (.int .i32 0) ∧ w.cell? ⟨g, 3, none⟩ = some (.int .u32 0) ∧ w.cell? ⟨g, 4, none⟩ = some (.int .i64 pub) ∧ w.cell? ⟨g, 5, none⟩ = some (.int .u32 md) ∧ w.cell? ⟨g, 6, none⟩ = some (.int .i64 us) :=
  ⟨h.cell 0, h.cell 1, h.cell 2, h.cell 3, h.cell 4, h.cell 5, h.cell 6⟩

end Go.Proofs.Ytpemaphgmfaioaa

/-
  sync.Once's slow road, in the run of one goroutine: contracts of its parts.
-/
namespace Go.Proofs.Ytpemaphgmfaioaa
set_option maxRecDepth 100000
open Go.RowKit Pm
set_option linter.unusedVariables false
set_option linter.unusedSimpArgs false

/-- a key while it is locked, or not -/
abbrev KC (s dn mu pub md us : Int) : Array Value := #[.int .i64 s, .int .u32 dn, .int .i32 mu, .int .u32 0, .int .i64 pub, .int .u32 md, .int .i64 us]
theorem Blk.kc {w : World} {g : Nat} {t : TypeId} {s dn mu pub md us : Int} (h : Blk w g (KC s dn mu pub md us) t) :
    w.cell? ⟨g, 0, none⟩ = some (.int .i64 s) ∧ w.cell? ⟨g, 1, none⟩ = some (.int .u32 dn) ∧ w.cell? ⟨g, 2, none⟩ = some (.int .i32 mu) ∧ w.cell? ⟨g, 4, none⟩ = some (.int .i64 pub) ∧ w.cell? ⟨g, 5, none⟩ = some (.int .u32 md) ∧ w.cell? ⟨g, 6, none⟩ = some (.int .i64 us) :=
  ⟨h.cell 0, h.cell 1, h.cell 2, h.cell 4, h.cell 5, h.cell 6⟩

end Go.Proofs.Ytpemaphgmfaioaa

/-
  Keys: what two keys share, the program's and the document's; the document's keys.
-/
namespace Go.Proofs.Ytpemaphgmfaioaa
set_option maxRecDepth 100000
open Go.RowKit Pm
set_option linter.unusedVariables false
set_option linter.unusedSimpArgs false

theorem results_row_tmp {P : Program} {fn : Func} {p u : Tmp} {ty : TypeId} (h : fn.results = #[.cell p ty, .tmp u]) (tmps : Array Value) (w : World) (g : Nat) (t : TypeId) (cs : Array Value) (fr : Nat × Nat) (d : TypeDesc) (v2 : Value) (hv2 : tmps.getD u undef = v2)
    (hp : tmps.getD p undef = .pointer (some ⟨g, 0, none⟩)) (hg : w.heap[g]? = some (.cells cs t fr))
    (hu : P.underlying ty = some d) (hd : (match d with | .struct _ | .array _ _ => true | _ => false) = true) (hi : (P.info? ty).map (·.size) = some cs.size) :
    (results fn tmps).run P w = .ok (.tuple #[.agg cs, v2]) w := by
  rw [results_cell_tmp h, hp, hv2]
  simp [asAddr, run_loadVar_row w g t ty cs fr d hg hu hd hi, Result.andThen]

/-- what a number and a secret share -/
def shareW (p s : Int) : List UInt8 := deriveW (List.replicate 32 0) (sb ⟨#[115, 104, 97, 114, 101]⟩) (fourB (powI p s))
theorem derive_share (p s : Int) (g : Nat) (w : World) (t q : TypeId) (hF : Blk w g (HC (fourB (powI p s))) t) :
    Calls Try.prog 33 #[.agg zeros32, .string ⟨#[115, 104, 97, 114, 101]⟩, .slice (some ⟨w.heap.size, 0, none⟩) 1 1] (w.alloc (.cells #[.slice (some ⟨g, 0, none⟩) 4 4] q)) fun e w' => e = .returned (HV (shareW p s)) ∧ Below (w.alloc (.cells #[.slice (some ⟨g, 0, none⟩) 4 4] q)).heap.size (w.alloc (.cells #[.slice (some ⟨g, 0, none⟩) 4 4] q)) w' := by
  have e1 : [fourB (powI p s)].flatten = fourB (powI p s) := by simp
  have hr : Row8 w (some ⟨g, 0, none⟩) 4 (fourB (powI p s)) := Row8.ofBlk hF (by simp [maxLen, fourB]) 4 rfl
  have hR : RowR (w.alloc (.cells #[.slice (some ⟨g, 0, none⟩) 4 4] q)) (some ⟨w.heap.size, 0, none⟩) 1 [fourB (powI p s)] := RowR.one hr
  have h := derive_zero ⟨#[115, 104, 97, 114, 101]⟩ (by decide) _ 1 1 [fourB (powI p s)] _ hR
  rw [e1] at h
  exact h
theorem shareW_length (p s : Int) : (shareW p s).length = 32 := sumW_length _

/-- the document's keys -/
theorem rfrom_any (h : List UInt8) (hh : h.length = 32) (w : World) :
    Calls Try.prog 12 #[HV h] w fun e w' => e = .returned (.agg #[.int .i64 (U (numN h 8) % 1073741788 + 1), .int .i64 (powI 4 (U (numN h 8) % 1073741788 + 1))]) ∧ Below w.heap.size w w' := by
  obtain ⟨x, hx⟩ : ∃ x, U (numN h 8) % 1073741788 + 1 = x := ⟨_, rfl⟩
  have hB := Blk.new w (HC h) 35
  have hsz : (Try.prog.info? 35).map (·.size) = some (HC h).size := by rw [HC_size, hh]; kernel_rfl
  have HB := Lib.hid hB; have S1 := Lib.hid hsz; have HH := Lib.hid hh; have HX := Lib.hid hx
  rw [hx]
  clear hB hsz hh hx
  unfold HV
  go_enter Try.func12, Try.ntmps12
  go_wp2_with (first
    | (refine wpList_load_row rfl 35 _ rfl w.heap.size rfl 35 (HC h) (0, 0) _ (HB.out.alloc _) Try.underlying35 rfl S1.out ?_)
    | (go_at_call 27; refine (rscalar_any h HH.out _).mono ?_; rintro e w1 ⟨rfl, hb1⟩; rw [HX.out]
       have hK1 : Blk w1 (w.heap.size + 1) #[.int .i64 0, .int .i64 0] 46 := (Blk.newAt _ _ (by simp)).keep hb1
       have c0 : w1.cell? ⟨w.heap.size + 1, 0, none⟩ = some (.int .i64 0) := hK1.cell 0
       have c1 : w1.cell? ⟨w.heap.size + 1, 1, none⟩ = some (.int .i64 0) := hK1.cell 1
       have f0 := hK1.frozen 0
       have f1 := hK1.frozen 1
       have HB1 := Lib.hid ((((Below.refl _ w).next (Nat.le_refl _) _).next (Nat.le_refl _) _).later hb1 (Nat.le_refl _))
       have HK1 := Lib.hid hK1
       clear hK1 hb1)
    | (go_at_call 28; refine (rpow_any 4 x _).mono ?_; rintro e w' ⟨rfl, rfl⟩))
  have hK2 : Blk ((w1.setCell ⟨w.heap.size + 1, 0, none⟩ (.int .i64 x)).setCell ⟨w.heap.size + 1, 1, none⟩ (.int .i64 (powI 4 x))) (w.heap.size + 1) #[.int .i64 x, .int .i64 (powI 4 x)] 46 := ((HK1.out.set 0 _).set 1 _).copy rfl
  have hg2 : w1.grownBy ((w1.setCell ⟨w.heap.size + 1, 0, none⟩ (.int .i64 x)).setCell ⟨w.heap.size + 1, 1, none⟩ (.int .i64 (powI 4 x))) (some (w.heap.size + 1)) := grown_setCell (grown_setCell (grown_refl _ _) 0 _) 1 _
  have hs1 := HB1.out.size
  exact bodyPost_ret (v := .agg #[.int .i64 x, .int .i64 (powI 4 x)]) (results_cell_row rfl _ _ (w.heap.size + 1) _ #[.int .i64 x, .int .i64 (powI 4 x)] (0, 0) _ rfl hK2 Try.underlying46 rfl (by kernel_rfl)) rfl
    ⟨rfl, below_grown HB1.out hg2 (by omega) hs1⟩

theorem rderive_share (p s : Int) (g : Nat) (w : World) (t : TypeId) (hF : Blk w g (HC (fourB (powI p s))) t) :
    Calls Try.prog 35 #[.agg zeros32, .string ⟨#[115, 104, 97, 114, 101]⟩, .slice (some ⟨g, 0, none⟩) 4 4] w fun e w' => e = .returned (HV (shareW p s)) ∧ Below w.heap.size w w' :=
  rderive_any (List.replicate 32 0) rfl ⟨#[115, 104, 97, 114, 101]⟩ _ 4 4 (fourB (powI p s)) w (Row8.ofBlk hF (by simp [maxLen, fourB]) 4 rfl) (fun h => by cases h) (by simp [fourB]; decide)

end Go.Proofs.Ytpemaphgmfaioaa

/-
  The laws over package pair: keys' numbers, what the laws take for known.
-/
namespace Go.Proofs.Ytpemaphgmfaioaa
set_option maxRecDepth 100000
open Go.RowKit Pm
set_option linter.unusedVariables false
set_option linter.unusedSimpArgs false
attribute [local go_sem] eqh_guard

/-- a sum's secret number -/
def keyS (h : List UInt8) : Int := U (numN h 8) % 1073741788 + 1
theorem keyS_bd (h : List UInt8) : 1 ≤ keyS h ∧ keyS h < 1073741789 := by
  have hbd := U_bd (numN h 8)
  unfold keyS
  omega
theorem rfrom_k (h : List UInt8) (hh : h.length = 32) (w : World) :
    Calls Try.prog 12 #[HV h] w fun e w' => e = .returned (.agg #[.int .i64 (keyS h), .int .i64 (powI 4 (keyS h))]) ∧ Below w.heap.size w w' := rfrom_any h hh w

/-- one, and thirty-one noughts -/
def one32 : Array Value := #[.int .u8 1, .int .u8 0, .int .u8 0, .int .u8 0, .int .u8 0, .int .u8 0, .int .u8 0, .int .u8 0, .int .u8 0, .int .u8 0, .int .u8 0, .int .u8 0, .int .u8 0, .int .u8 0, .int .u8 0, .int .u8 0, .int .u8 0,
  .int .u8 0, .int .u8 0, .int .u8 0, .int .u8 0, .int .u8 0, .int .u8 0, .int .u8 0, .int .u8 0, .int .u8 0, .int .u8 0, .int .u8 0, .int .u8 0, .int .u8 0, .int .u8 0, .int .u8 0]
def ones : List UInt8 := 1 :: List.replicate 31 0
theorem one32_HC : one32 = HC ones := by rfl
theorem rfrom_one (w : World) :
    Calls Try.prog 12 #[.agg one32] w fun e w' => e = .returned (.agg #[.int .i64 (keyS ones), .int .i64 (powI 4 (keyS ones))]) ∧ Below w.heap.size w w' := by
  rw [one32_HC]; exact rfrom_k ones rfl w

theorem key_y (a b : Int) (w : World) : (Instr.field 46 (.agg #[.int .i64 a, .int .i64 b]) 1).run Try.prog w = .ok (.int .i64 b) w := by
  simp [Instr.field, asAgg, go_sem, Try.underlying46, Try.underlying3]
theorem key_x (a b : Int) (w : World) : (Instr.field 46 (.agg #[.int .i64 a, .int .i64 b]) 0).run Try.prog w = .ok (.int .i64 a) w := by
  simp [Instr.field, asAgg, go_sem, Try.underlying46, Try.underlying3]
attribute [local go_sem] key_y key_x

end Go.Proofs.Ytpemaphgmfaioaa

/-
  Keys in whichever state: what each method does to it, in one contract each.
-/
namespace Go.Proofs.Ytpemaphgmfaioaa
set_option maxRecDepth 100000
open Go.RowKit Pm
set_option linter.unusedVariables false
set_option linter.unusedSimpArgs false

/-- a key: its secret number, whether its public number was worked out, its uses -/
def CD (s : Int) (d : Bool) (us : Int) : Array Value := CK s (if d then 1 else 0) (if d then powI 4 s else 0) (if d then 1 else 0) us
/-- what is shared, or noughts -/
def shW (p s : Int) : List UInt8 := if isI p then shareW p s else List.replicate 32 0
theorem shW_length (p s : Int) : (shW p s).length = 32 := by
  unfold shW
  split
  · exact shareW_length _ _
  · rfl
def cnt (b : Bool) : Int := if b then 1 else 0
theorem cnt_bd (b : Bool) : 0 ≤ cnt b ∧ cnt b ≤ 1 := by cases b <;> simp [cnt]

end Go.Proofs.Ytpemaphgmfaioaa

/-
  Signatures as numbers. No program is named here.
-/
namespace Go.Proofs.Ytpemaphgmfaioaa
set_option maxRecDepth 100000
open Go.RowKit Pm
set_option linter.unusedVariables false

/-- what a signature has to answer -/
def askW (b y : Int) (p : List UInt8) : Int := U (numN (deriveW (List.replicate 32 0) (sb ⟨#[115, 105, 103, 110]⟩) [fourB b, fourB y, p].flatten) 8) % 1073741789
/-- the number that nobody may know -/
def nonceW (x : Int) (p : List UInt8) : Int := U (numN (deriveW (List.replicate 32 0) (sb ⟨#[110, 111, 110, 99, 101]⟩) [fourB x, p].flatten) 8) % 1073741788 + 1
def sigE (s : Int) (p : List UInt8) : Int := askW (powI 4 (nonceW s p)) (powI 4 s) p
def sigS (s : Int) (p : List UInt8) : Int := (nonceW s p + sigE s p * s) % 1073741789
/-- whether a signature holds -/
def verW (y : Int) (p : List UInt8) (e s : Int) : Bool := isI y && decide (0 ≤ e ∧ e < 1073741789) && decide (0 ≤ s ∧ s < 1073741789) && (e == askW (mulI (powI 4 s) (powI y (1073741789 - e))) y p)

theorem askW_bd (b y : Int) (p : List UInt8) : 0 ≤ askW b y p ∧ askW b y p < 1073741789 := by
  unfold askW
  omega
theorem nonceW_bd (x : Int) (p : List UInt8) : 1 ≤ nonceW x p ∧ nonceW x p < 1073741789 := by
  unfold nonceW
  omega
theorem sigE_bd (s : Int) (p : List UInt8) : 0 ≤ sigE s p ∧ sigE s p < 1073741789 := askW_bd _ _ _
theorem sigS_bd (s : Int) (p : List UInt8) : 0 ≤ sigS s p ∧ sigS s p < 1073741789 := by
  unfold sigS
  omega

theorem pw_round (m k : Nat) : pw 4 (m + 1073741789 * k) = pw 4 m := by
  rw [← pw_add, ← pw_pw, four_Q, pw_one_base, Nat.mul_one, Nat.mod_eq_of_lt (pw_lt _ _)]
theorem pw_mod (m : Nat) : pw 4 (m % 1073741789) = pw 4 m := by
  have h := pw_round (m % 1073741789) (m / 1073741789)
  rw [Nat.mod_add_div] at h
  exact h.symm
/-- the point that a signature began with -/
theorem begun (x r e : Int) (hx : 0 ≤ x ∧ x < 1073741789) (hr : 0 ≤ r ∧ r < 1073741789) (he : 0 ≤ e ∧ e < 1073741789) :
    mulI (powI 4 ((r + e * x) % 1073741789)) (powI (powI 4 x) (1073741789 - e)) = powI 4 r := by
  obtain ⟨x, rfl⟩ := Int.eq_ofNat_of_zero_le hx.1
  obtain ⟨r, rfl⟩ := Int.eq_ofNat_of_zero_le hr.1
  obtain ⟨e, rfl⟩ := Int.eq_ofNat_of_zero_le he.1
  have e1 : ((r : Int) + e * x) % 1073741789 = (((r + e * x) % 1073741789 : Nat) : Int) := by
    have hm : ((e * x : Nat) : Int) = (e : Int) * x := Int.natCast_mul e x
    rw [← hm]
    generalize e * x = m
    omega
  have e2 : (1073741789 - (e : Int)) = ((1073741789 - e : Nat) : Int) := by omega
  have h1 : powI 4 (((r + e * x) % 1073741789 : Nat) : Int) = (pw 4 ((r + e * x) % 1073741789) : Int) := powI_nat 4 _ (by decide) (by omega)
  have h2 : powI 4 (x : Int) = (pw 4 x : Int) := powI_nat 4 x (by decide) (by omega)
  have h3 : powI 4 (r : Int) = (pw 4 r : Int) := powI_nat 4 r (by decide) (by omega)
  rw [e1, e2, h1, h2, h3, powI_nat (pw 4 x) (1073741789 - e) (pw_lt _ _) (by omega), pw_pw, pw_mod, mulI_nat _ _ (pw_lt _ _) (pw_lt _ _), pw_add]
  have e3 : r + e * x + x * (1073741789 - e) = r + 1073741789 * x := by
    have h4 : x * (1073741789 - e) + x * e = x * 1073741789 := by rw [← Nat.mul_add, Nat.sub_add_cancel (by omega)]
    have h5 : e * x = x * e := Nat.mul_comm _ _
    have h6 : 1073741789 * x = x * 1073741789 := Nat.mul_comm _ _
    omega
  rw [e3, pw_round]
theorem isI_pubS (s : Int) (hs : 1 ≤ s ∧ s < 1073741789) : isI (powI 4 s) = true := by
  obtain ⟨n, rfl⟩ := Int.eq_ofNat_of_zero_le (show 0 ≤ s by omega)
  rw [show powI 4 (n : Int) = (pw 4 n : Int) from powI_nat 4 n (by decide) (by omega)]
  exact isI_four n (by omega) (by omega)
theorem verW_own (s : Int) (p : List UInt8) (hs : 1 ≤ s ∧ s < 1073741789) : verW (powI 4 s) p (sigE s p) (sigS s p) = true := by
  have hn := nonceW_bd s p
  have hE := sigE_bd s p
  unfold verW
  rw [isI_pubS s hs, decide_eq_true hE, decide_eq_true (sigS_bd s p)]
  have h := begun s (nonceW s p) (sigE s p) ⟨by omega, hs.2⟩ ⟨by omega, hn.2⟩ hE
  have h2 : sigS s p = (nonceW s p + sigE s p * s) % 1073741789 := rfl
  rw [h2, h]
  simp [sigE]
end Go.Proofs.Ytpemaphgmfaioaa
