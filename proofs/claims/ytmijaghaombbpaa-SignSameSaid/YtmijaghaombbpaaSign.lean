/-
  Signatures: the walks of asked, Sign, Verify, the program's and the document's.
-/
import Derived.Test.YtmijaghaombbpaaSignMath
import Derived.Test.YtmijaghaombbpaaKeys
import Derived.Test.YtmijaghaombbpaaDeriveR
import Derived.Test.YtmijaghaombbpaaExt3
namespace Go.Proofs.Ytmijaghaombbpaa
set_option maxRecDepth 100000
open Go.RowKit Pm
set_option linter.unusedVariables false
set_option linter.unusedSimpArgs false

theorem four_b (n : Int) (w : World) : Calls Try.prog 24 #[.int .i64 n] w fun e w' => e = .returned (.slice (some ⟨w.heap.size, 0, none⟩) 4 4) ∧ Blk w' w.heap.size (HC (fourB n)) 5 ∧ Below w.heap.size w w' := by
  refine (four_any n w).mono ?_
  rintro e w' ⟨rfl, rfl⟩
  exact ⟨rfl, Blk.new _ _ _, (Below.refl _ _).next (Nat.le_refl _) _⟩
theorem rfour_b (n : Int) (w : World) : Calls Try.prog 30 #[.int .i64 n] w fun e w' => e = .returned (.slice (some ⟨w.heap.size, 0, none⟩) 4 4) ∧ Blk w' w.heap.size (HC (fourB n)) 5 ∧ Below w.heap.size w w' := by
  refine (rfour_any n w).mono ?_
  rintro e w' ⟨rfl, rfl⟩
  exact ⟨rfl, Blk.new _ _ _, (Below.refl _ _).next (Nat.le_refl _) _⟩
theorem cell_grown {w w' : World} {g : Nat} (h : w.grownBy w' (some g)) {x : Addr} {v : Value} (hx : w.cell? x = some v) (hne : x.block ≠ g) : w'.cell? x = some v := by
  have hlt := block_lt_of_cell hx
  have hb := h.block x.block hlt (fun e => hne (by injection e))
  unfold World.cell? at *
  rw [hb]; exact hx
/-- bytes are no key -/
theorem no_key {w : World} {g : Nat} {t : TypeId} {s us : Int} {d : Bool} (hk : Blk w g (CD s d us) t) {x : Addr} {z : Int} (hx : w.cell? x = some (.int .u8 z)) : x.block ≠ g := by
  rintro rfl
  unfold Blk at hk
  unfold World.cell? at hx
  rw [hk] at hx
  simp only [CD, CK] at hx
  split at hx
  · cases hx
  · rcases x with ⟨b, o, sp⟩
    match o with
    | 0 => simp at hx
    | 1 => simp at hx
    | 2 => simp at hx
    | 3 => simp at hx
    | 4 => simp at hx
    | 5 => simp at hx
    | 6 => simp at hx
    | n + 7 => simp at hx
theorem Row8.key {w w' : World} {g : Nat} {t : TypeId} {s us : Int} {d : Bool} {a : Option Addr} {l : Nat} {p : List UInt8} (h : Row8 w a l p) (hk : Blk w g (CD s d us) t) (hg : w.grownBy w' (some g)) : Row8 w' a l p := by
  refine ⟨h.len_eq, h.small, ?_⟩
  rcases h.cells with h1 | ⟨b, off, rfl, hc⟩
  · exact .inl h1
  · exact .inr ⟨b, off, rfl, fun i hi => cell_grown hg (hc i hi) (no_key hk (hc i hi))⟩
theorem Arg8.key {w w' : World} {g : Nat} {t : TypeId} {s us : Int} {d : Bool} {a : Option Addr} {l c : Nat} {p : List UInt8} (h : Arg8 w a l c p) (hk : Blk w g (CD s d us) t) (hg : w.grownBy w' (some g)) : Arg8 w' a l c p := ⟨h.row.key hk hg, h.nil, h.le, h.small⟩

theorem asked_row (b y : Int) (a : Option Addr) (l c : Nat) (p : List UInt8) (w : World) (hp : Row8 w a l p) :
    Calls Try.prog 25 #[.int .i64 b, .int .i64 y, .slice a l c] w fun e w' => e = .returned (.int .i64 (askW b y p)) ∧ Below w.heap.size w w' := by
  obtain ⟨d, hd⟩ : ∃ d, deriveW (List.replicate 32 0) (sb ⟨#[115, 105, 103, 110]⟩) [fourB b, fourB y, p].flatten = d := ⟨_, rfl⟩
  have hdl : d.length = 32 := by rw [← hd]; exact sumW_length _
  have hres : askW b y p = U (numN d 8) % 1073741789 := by rw [← hd]; rfl
  rw [hres]
  have HD := Lib.hid hd; have HDL := Lib.hid hdl; have HP := Lib.hid hp
  clear hd hdl hp hres
  go_enter Try.func25, Try.ntmps25
  go_wp2_with fail
  refine (four_b b _).mono ?_
  rintro e w1 ⟨rfl, hF1, hb1⟩
  have HP1 := Lib.hid (HP.out.below hb1); have HF1 := Lib.hid hF1; have HB1 := Lib.hid hb1
  clear hF1 hb1
  go_wp2_with fail
  refine (four_b y _).mono ?_
  rintro e w2 ⟨rfl, hF2, hb2⟩
  have HP2 := Lib.hid (HP1.out.below hb2); have HF2 := Lib.hid hF2; have HF1 := Lib.hid (HF1.out.keep hb2); have HB2 := Lib.hid (HB1.out.later hb2 (Nat.le_refl _))
  clear hF2 hb2
  go_wp2_with fail
  refine (derive_zero ⟨#[115, 105, 103, 110]⟩ (by decide) _ 3 3 [fourB b, fourB y, p] _ (RowR.three (Row8.ofBlk HF1.out (by simp [fourB, maxLen]) 4 rfl) (Row8.ofBlk HF2.out (by simp [fourB, maxLen]) 4 rfl) HP2.out)).mono ?_
  rintro e w3 ⟨rfl, hb3⟩
  rw [HD.out]
  have HB3 := Lib.hid ((HB2.out.next (Nat.le_refl _) _).later hb3 (Nat.le_refl _))
  clear hb3
  go_wp2_with fail
  refine (pnumber_any d HDL.out _).mono ?_
  rintro e w4 ⟨rfl, hb4⟩
  go_wp2
  go_ret
  exact ⟨rfl, HB3.out.later hb4 (Nat.le_refl _)⟩
theorem asked_any (b y : Int) (a : Option Addr) (l c : Nat) (p : List UInt8) (w : World) (hp : Arg8 w a l c p) :
    Calls Try.prog 25 #[.int .i64 b, .int .i64 y, .slice a l c] w fun e w' => e = .returned (.int .i64 (askW b y p)) ∧ Below w.heap.size w w' := asked_row b y a l c p w hp.row

theorem rasked_any (b y : Int) (a : Option Addr) (l c : Nat) (p : List UInt8) (w : World) (hp : Arg8 w a l c p) :
    Calls Try.prog 31 #[.int .i64 b, .int .i64 y, .slice a l c] w fun e w' => e = .returned (.int .i64 (askW b y p)) ∧ Below w.heap.size w w' := by
  obtain ⟨q, hq⟩ : ∃ q, [fourB b, fourB y, p].flatten = q := ⟨_, rfl⟩
  obtain ⟨d, hd⟩ : ∃ d, deriveW (List.replicate 32 0) (sb ⟨#[115, 105, 103, 110]⟩) q = d := ⟨_, rfl⟩
  have hdl : d.length = 32 := by rw [← hd]; exact sumW_length _
  have hres : askW b y p = U (numN d 8) % 1073741789 := by rw [← hd, ← hq]; rfl
  have hql : q.length ≤ 140737488353000 := by
    have h1 := hp.le; have h2 := hp.small; have h3 := hp.row.len_eq
    rw [← hq]; simp [fourB]; omega
  rw [hres]
  have HD := Lib.hid hd; have HDL := Lib.hid hdl; have HP := Lib.hid hp; have HQ := Lib.hid hq; have HQL := Lib.hid hql
  clear hd hdl hp hres hq hql
  go_enter Try.func31, Try.ntmps31
  go_wp2_with fail
  refine (rfour_b b _).mono ?_
  rintro e w1 ⟨rfl, hF1, hb1⟩
  have HP1 := Lib.hid (HP.out.below hb1); have HF1 := Lib.hid hF1; have HB1 := Lib.hid hb1
  clear hF1 hb1
  go_wp2_with fail
  refine (rfour_b y _).mono ?_
  rintro e w2 ⟨rfl, hF2, hb2⟩
  have HP2 := Lib.hid (HP1.out.below hb2); have HF2 := Lib.hid hF2; have HF1 := Lib.hid (HF1.out.keep hb2); have HB2 := Lib.hid (HB1.out.later hb2 (Nat.le_refl _))
  clear hF2 hb2
  go_wp2_with fail
  refine (rjoin_any _ 3 3 [fourB b, fourB y, p] _ (ArgR.three (Arg8.ofBlk HF1.out rfl (by simp [fourB])) (Arg8.ofBlk HF2.out rfl (by simp [fourB])) HP2.out) (by have h1 := HQL.out; rw [HQ.out]; omega)).mono ?_
  rintro e w3 ⟨⟨a3, c3, rfl, hr3, hn3⟩, hb3⟩
  rw [HQ.out] at hr3 ⊢
  have HB3 := Lib.hid ((HB2.out.next (Nat.le_refl _) _).later hb3 (Nat.le_refl _)); have HR3 := Lib.hid hr3; have HN3 := Lib.hid hn3
  clear hb3 hr3 hn3
  go_wp2_with fail
  refine (rderive_zero ⟨#[115, 105, 103, 110]⟩ a3 _ c3 q _ HR3.out HN3.out (by have h1 := HQL.out; simp [ByteArray.size]; omega)).mono ?_
  rintro e w4 ⟨rfl, hb4⟩
  rw [HD.out]
  have HB4 := Lib.hid (HB3.out.later hb4 (Nat.le_refl _))
  clear hb4
  go_wp2_with fail
  refine (rnumber_any d HDL.out _).mono ?_
  rintro e w5 ⟨rfl, hb5⟩
  go_wp2
  go_ret
  exact ⟨rfl, HB4.out.later hb5 (Nat.le_refl _)⟩
end Go.Proofs.Ytmijaghaombbpaa
