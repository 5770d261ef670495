/-
  Keys: what two keys share, the program's and the document's; the document's keys.
-/
import Derived.Test.YtbhhgmaibdkgbaaOnce
import Derived.Test.YtbhhgmaibdkgbaaDeriveR
import Derived.Test.YtbhhgmaibdkgbaaPowerR
import Derived.Laws.ResultCell
namespace Go.Proofs.Ytbhhgmaibdkgbaa
set_option maxRecDepth 100000
open Go.RowKit Pm
set_option linter.unusedVariables false
set_option linter.unusedSimpArgs false

theorem results_row_tmp {P : Program} {fn : Func} {p u : Tmp} {ty : TypeId} (h : fn.results = #[.cell p ty, .tmp u]) (tmps : Array Value) (w : World) (g : Nat) (t : TypeId) (cs : Array Value) (fr : Nat × Nat) (d : TypeDesc) (v2 : Value) (hv2 : tmps.getD u undef = v2)
    (hp : tmps.getD p undef = .pointer (some ⟨g, 0, none⟩)) (hg : w.heap[g]? = some (.cells cs t fr))
    (hu : P.underlying ty = some d) (hd : (match d with | .struct _ | .array _ _ => true | _ => false) = true) (hi : (P.info? ty).map (·.size) = some cs.size) :
    (results fn tmps).run P w = .ok (.tuple #[.agg cs, v2]) w := by
  rw [results_cell_tmp h, hp, hv2]
  simp [asAddr, run_loadVar_row w g t ty cs fr d hg hu hd hi, Result.andThen]

theorem iadd_any (a : Addr) (x : Int) (w : World) (hc : w.cell? a = some (.int .i64 x)) (hz : w.frozen? a = false) (hx : 0 ≤ x ∧ x < 1000000) :
    Calls Try.prog 33 #[.pointer (some a), .int .i64 1] w fun e w' => e = .returned (.int .i64 (x + 1)) ∧ w' = w.setCell a (.int .i64 (x + 1)) := by
  have hw : IntKind.i64.wrap (x + 1) = x + 1 := IntWalk.i64_in _ (by omega)
  have hadd := run_call_add (P := Try.prog) Try.func48 (by kernel_rfl) (by kernel_rfl) (by kernel_rfl) .i64 (by kernel_rfl) (y := 1) (s := x + 1) hc hz (by simp [go_sem, hw])
  go_enter Try.func33, Try.ntmps33
  go_wp2
  go_ret
  exact ⟨rfl, rfl⟩

/-- what a number and a secret share -/
def shareW (p s : Int) : List UInt8 := deriveW (List.replicate 32 0) (sb ⟨#[115, 104, 97, 114, 101]⟩) (fourB (powI p s))
theorem derive_share (p s : Int) (g : Nat) (w : World) (t q : TypeId) (hF : Blk w g (HC (fourB (powI p s))) t) :
    Calls Try.prog 34 #[.agg zeros32, .string ⟨#[115, 104, 97, 114, 101]⟩, .slice (some ⟨w.heap.size, 0, none⟩) 1 1] (w.alloc (.cells #[.slice (some ⟨g, 0, none⟩) 4 4] q)) fun e w' => e = .returned (HV (shareW p s)) ∧ Below (w.alloc (.cells #[.slice (some ⟨g, 0, none⟩) 4 4] q)).heap.size (w.alloc (.cells #[.slice (some ⟨g, 0, none⟩) 4 4] q)) w' := by
  have e1 : [fourB (powI p s)].flatten = fourB (powI p s) := by simp
  have hr : Row8 w (some ⟨g, 0, none⟩) 4 (fourB (powI p s)) := Row8.ofBlk hF (by simp [maxLen, fourB]) 4 rfl
  have hR : RowR (w.alloc (.cells #[.slice (some ⟨g, 0, none⟩) 4 4] q)) (some ⟨w.heap.size, 0, none⟩) 1 [fourB (powI p s)] := RowR.one hr
  have h := derive_zero ⟨#[115, 104, 97, 114, 101]⟩ (by decide) _ 1 1 [fourB (powI p s)] _ hR
  rw [e1] at h
  exact h
theorem shareW_length (p s : Int) : (shareW p s).length = 32 := sumW_length _

theorem shared_no (g : Nat) (s dn pub md us p : Int) (hp : isI p = false) (w : World) (hk : Blk w g (CK s dn pub md us) 61) :
    Calls Try.prog 19 #[.pointer (some ⟨g, 0, none⟩), .int .i64 p] w fun e w' => e = .returned (.tuple #[HV (List.replicate 32 0), .bool false]) ∧ Below w.heap.size w w' := by
  have hR : Blk (w.alloc (.cells zeros32 23)) w.heap.size zeros32 23 := Blk.new w _ _
  have HR := Lib.hid hR; have HP := Lib.hid hp
  clear hR hp hk
  go_enter Try.func19, Try.ntmps19
  go_wp2_with (first
    | (go_at_call 32; refine (is_any p _).mono ?_; rintro e w' ⟨rfl, rfl⟩; rw [HP.out])
    | (refine wpList_store_row rfl 23 _ _ rfl w.heap.size zeros32 rfl rfl 23 zeros32 HR.out zsize rfl zone ?_))
  exact bodyPost_ret (v := .tuple #[.agg zeros32, .bool false]) (results_row_tmp rfl _ _ w.heap.size _ _ (0, 0) _ _ rfl rfl (HR.out.setRow _) Try.underlying23 rfl zsize) rfl
    ⟨rfl, below_setRow ((Below.refl _ w).next (Nat.le_refl _) _) _ (Nat.le_refl _)⟩

set_option maxHeartbeats 1600000 in
theorem shared_yes (g : Nat) (s dn pub md us p : Int) (hp : isI p = true) (hu : 0 ≤ us ∧ us < 1000000) (w : World) (hk : Blk w g (CK s dn pub md us) 61) :
    Calls Try.prog 19 #[.pointer (some ⟨g, 0, none⟩), .int .i64 p] w fun e w' => e = .returned (.tuple #[HV (shareW p s), .bool true]) ∧ Blk w' g (CK s dn pub md (us + 1)) 61 ∧ w.grownBy w' (some g) := by
  have hlt := hk.lt
  have hR : Blk (w.alloc (.cells zeros32 23)) w.heap.size zeros32 23 := Blk.new w _ _
  have hk0 := hk.alloc (.cells zeros32 23)
  have hg0 : w.grownBy (w.alloc (.cells zeros32 23)) (some g) := grown_below (grown_refl w _) ((Below.refl _ w).next (Nat.le_refl _) _)
  have hsz2 : zeros32.size = (HC (shareW p s)).size := by rw [HC_size, shareW_length]; rfl
  have hsz : (Try.prog.info? 23).map (·.size) = some (HC (shareW p s)).size := by rw [HC_size, shareW_length]; kernel_rfl
  have HK0 := Lib.hid hk0; have HP := Lib.hid hp; have HG0 := Lib.hid hg0; have HR0 := Lib.hid hR; have HU := Lib.hid hu; have S2 := Lib.hid hsz2; have S1 := Lib.hid hsz
  clear hR hp hk hk0 hg0 hu hsz2 hsz
  go_enter Try.func19, Try.ntmps19
  go_wp2_with (first
    | (go_at_call 32; refine (is_any p _).mono ?_; rintro e w' ⟨rfl, rfl⟩; rw [HP.out])
    | (go_at_call 33; refine (iadd_any ⟨g, 6, none⟩ us _ (HK0.out.cell 6) (HK0.out.frozen 6) HU.out).mono ?_; rintro e w1 ⟨rfl, hw1⟩
       have hk1 : Blk w1 g (CK s dn pub md (us + 1)) 61 := by rw [hw1]; exact (HK0.out.set 6 _).copy rfl
       have hg1 : w.grownBy w1 (some g) := by rw [hw1]; exact grown_setCell HG0.out 6 _
       have hR1 : Blk w1 w.heap.size zeros32 23 := by rw [hw1]; exact HR0.out.other ⟨g, 6, none⟩ _ (by simp; omega)
       obtain ⟨c0, -, -, -, -, -, -⟩ := hk1.key
       have HK1 := Lib.hid hk1; have HG1 := Lib.hid hg1; have HR1 := Lib.hid hR1
       clear hw1 hk1 hg1 hR1 HK0 HG0 HR0)
    | (go_at_call 30; refine (pow_any p s _).mono ?_; rintro e w' ⟨rfl, rfl⟩)
    | (go_at_call 16; refine (four_any _ _).mono ?_; rintro e w2 ⟨rfl, hw2⟩
       have hF : Blk w2 w1.heap.size (HC (fourB (powI p s))) 5 := by rw [hw2]; exact Blk.new _ _ _
       have hb2 : Below w1.heap.size w1 w2 := by rw [hw2]; exact (Below.refl _ _).next (Nat.le_refl _) _
       have HF := Lib.hid hF; have HB2 := Lib.hid hb2
       clear hw2 hF hb2)
    | (go_at_call 34; refine (derive_share p s w1.heap.size w2 _ _ HF.out).mono ?_; rintro e w3 ⟨rfl, hb3⟩)
    | (refine wpList_store_row rfl 23 _ _ rfl w.heap.size (HC (shareW p s)) rfl rfl 23 zeros32 (((HR1.out.keep HB2.out).alloc _).keep hb3) S1.out S2.out (HC_one _) ?_))
  have hb : Below w1.heap.size w1 w3 := (HB2.out.next (Nat.le_refl _) _).later hb3 (Nat.le_refl _)
  have hlt1 : g < w1.heap.size := HK1.out.lt
  exact bodyPost_ret (v := .tuple #[HV (shareW p s), .bool true]) (results_row_tmp rfl _ _ w.heap.size _ (HC (shareW p s)) (0, 0) _ _ rfl rfl ((((HR1.out.keep HB2.out).alloc _).keep hb3).setRow _) Try.underlying23 rfl S1.out) rfl
    ⟨rfl, (HK1.out.keep hb).otherRow _ (by omega), grown_setRow (grown_below HG1.out hb) _ (.inl (Nat.le_refl _))⟩

/-- the document's keys -/
theorem rfrom_any (h : List UInt8) (hh : h.length = 32) (w : World) :
    Calls Try.prog 12 #[HV h] w fun e w' => e = .returned (.agg #[.int .i64 (U (numN h 8) % 1073741788 + 1), .int .i64 (powI 4 (U (numN h 8) % 1073741788 + 1))]) ∧ Below w.heap.size w w' := by
  obtain ⟨x, hx⟩ : ∃ x, U (numN h 8) % 1073741788 + 1 = x := ⟨_, rfl⟩
  have hB := Blk.new w (HC h) 23
  have hsz : (Try.prog.info? 23).map (·.size) = some (HC h).size := by rw [HC_size, hh]; kernel_rfl
  have HB := Lib.hid hB; have S1 := Lib.hid hsz; have HH := Lib.hid hh; have HX := Lib.hid hx
  rw [hx]
  clear hB hsz hh hx
  unfold HV
  go_enter Try.func12, Try.ntmps12
  go_wp2_with (first
    | (refine wpList_load_row rfl 23 _ rfl w.heap.size rfl 23 (HC h) (0, 0) _ (HB.out.alloc _) Try.underlying23 rfl S1.out ?_)
    | (go_at_call 26; refine (rscalar_any h HH.out _).mono ?_; rintro e w1 ⟨rfl, hb1⟩; rw [HX.out]
       have hK1 : Blk w1 (w.heap.size + 1) #[.int .i64 0, .int .i64 0] 27 := (Blk.newAt _ _ (by simp)).keep hb1
       have c0 : w1.cell? ⟨w.heap.size + 1, 0, none⟩ = some (.int .i64 0) := hK1.cell 0
       have c1 : w1.cell? ⟨w.heap.size + 1, 1, none⟩ = some (.int .i64 0) := hK1.cell 1
       have f0 := hK1.frozen 0
       have f1 := hK1.frozen 1
       have HB1 := Lib.hid ((((Below.refl _ w).next (Nat.le_refl _) _).next (Nat.le_refl _) _).later hb1 (Nat.le_refl _))
       have HK1 := Lib.hid hK1
       clear hK1 hb1)
    | (go_at_call 24; refine (rpow_any 4 x _).mono ?_; rintro e w' ⟨rfl, rfl⟩))
  have hK2 : Blk ((w1.setCell ⟨w.heap.size + 1, 0, none⟩ (.int .i64 x)).setCell ⟨w.heap.size + 1, 1, none⟩ (.int .i64 (powI 4 x))) (w.heap.size + 1) #[.int .i64 x, .int .i64 (powI 4 x)] 27 := ((HK1.out.set 0 _).set 1 _).copy rfl
  have hg2 : w1.grownBy ((w1.setCell ⟨w.heap.size + 1, 0, none⟩ (.int .i64 x)).setCell ⟨w.heap.size + 1, 1, none⟩ (.int .i64 (powI 4 x))) (some (w.heap.size + 1)) := grown_setCell (grown_setCell (grown_refl _ _) 0 _) 1 _
  have hs1 := HB1.out.size
  exact bodyPost_ret (v := .agg #[.int .i64 x, .int .i64 (powI 4 x)]) (results_cell_row rfl _ _ (w.heap.size + 1) _ #[.int .i64 x, .int .i64 (powI 4 x)] (0, 0) _ rfl hK2 Try.underlying27 rfl (by kernel_rfl)) rfl
    ⟨rfl, below_grown HB1.out hg2 (by omega) hs1⟩

theorem rshared_no (x y p : Int) (hp : isI p = false) (w : World) :
    Calls Try.prog 20 #[.agg #[.int .i64 x, .int .i64 y], .int .i64 p] w fun e w' => e = .returned (.tuple #[HV (List.replicate 32 0), .bool false]) ∧ Below w.heap.size w w' := by
  have hR : Blk ((w.alloc (.cells #[.int .i64 x, .int .i64 y] 27)).alloc (.cells zeros32 23)) (w.heap.size + 1) zeros32 23 := Blk.newAt _ _ (by simp)
  have HR := Lib.hid hR; have HP := Lib.hid hp
  clear hR hp
  go_enter Try.func20, Try.ntmps20
  go_wp2_with (first
    | (go_at_call 22; refine (ris_any p _).mono ?_; rintro e w' ⟨rfl, rfl⟩; rw [HP.out])
    | (refine wpList_store_row rfl 23 _ _ rfl (w.heap.size + 1) zeros32 rfl rfl 23 zeros32 HR.out zsize rfl zone ?_))
  exact bodyPost_ret (v := .tuple #[.agg zeros32, .bool false]) (results_row_tmp rfl _ _ (w.heap.size + 1) _ _ (0, 0) _ _ rfl rfl (HR.out.setRow _) Try.underlying23 rfl zsize) rfl
    ⟨rfl, below_setRow (((Below.refl _ w).next (Nat.le_refl _) _).next (Nat.le_refl _) _) _ (by omega)⟩

theorem rderive_share (p s : Int) (g : Nat) (w : World) (t : TypeId) (hF : Blk w g (HC (fourB (powI p s))) t) :
    Calls Try.prog 35 #[.agg zeros32, .string ⟨#[115, 104, 97, 114, 101]⟩, .slice (some ⟨g, 0, none⟩) 4 4] w fun e w' => e = .returned (HV (shareW p s)) ∧ Below w.heap.size w w' :=
  rderive_any (List.replicate 32 0) rfl ⟨#[115, 104, 97, 114, 101]⟩ _ 4 4 (fourB (powI p s)) w (Row8.ofBlk hF (by simp [maxLen, fourB]) 4 rfl) (fun h => by cases h) (by simp [fourB]; decide)

set_option maxHeartbeats 1600000 in
theorem rshared_yes (x y p : Int) (hp : isI p = true) (w : World) :
    Calls Try.prog 20 #[.agg #[.int .i64 x, .int .i64 y], .int .i64 p] w fun e w' => e = .returned (.tuple #[HV (shareW p x), .bool true]) ∧ Below w.heap.size w w' := by
  have hR : Blk ((w.alloc (.cells #[.int .i64 x, .int .i64 y] 27)).alloc (.cells zeros32 23)) (w.heap.size + 1) zeros32 23 := Blk.newAt _ _ (by simp)
  have hb0 : Below w.heap.size w ((w.alloc (.cells #[.int .i64 x, .int .i64 y] 27)).alloc (.cells zeros32 23)) := ((Below.refl _ w).next (Nat.le_refl _) _).next (Nat.le_refl _) _
  have hsz2 : zeros32.size = (HC (shareW p x)).size := by rw [HC_size, shareW_length]; rfl
  have hsz : (Try.prog.info? 23).map (·.size) = some (HC (shareW p x)).size := by rw [HC_size, shareW_length]; kernel_rfl
  have HR := Lib.hid hR; have HP := Lib.hid hp; have HB0 := Lib.hid hb0; have S2 := Lib.hid hsz2; have S1 := Lib.hid hsz
  clear hR hp hb0 hsz2 hsz
  go_enter Try.func20, Try.ntmps20
  go_wp2_with (first
    | (go_at_call 22; refine (ris_any p _).mono ?_; rintro e w' ⟨rfl, rfl⟩; rw [HP.out])
    | (go_at_call 24; refine (rpow_any p x _).mono ?_; rintro e w' ⟨rfl, rfl⟩)
    | (go_at_call 17; refine (rfour_any _ _).mono ?_; rintro e w2 ⟨rfl, hw2⟩
       have hF : Blk w2 (w.heap.size + 1 + 1) (HC (fourB (powI p x))) 5 := by rw [hw2]; exact Blk.newAt _ _ (by simp)
       have hR2 : Blk w2 (w.heap.size + 1) zeros32 23 := by rw [hw2]; exact HR.out.alloc _
       have hb2 : Below w.heap.size w w2 := by rw [hw2]; exact HB0.out.next (Nat.le_refl _) _
       have HF := Lib.hid hF; have HB2 := Lib.hid hb2; have HR2 := Lib.hid hR2
       clear hw2 hF hb2 hR2 HR HB0)
    | (go_at_call 35; refine (rderive_share p x (w.heap.size + 1 + 1) w2 _ HF.out).mono ?_; rintro e w3 ⟨rfl, hb3⟩)
    | (refine wpList_store_row rfl 23 _ _ rfl (w.heap.size + 1) (HC (shareW p x)) rfl rfl 23 zeros32 (HR2.out.keep hb3) S1.out S2.out (HC_one _) ?_))
  exact bodyPost_ret (v := .tuple #[HV (shareW p x), .bool true]) (results_row_tmp rfl _ _ (w.heap.size + 1) _ (HC (shareW p x)) (0, 0) _ _ rfl rfl ((HR2.out.keep hb3).setRow _) Try.underlying23 rfl S1.out) rfl
    ⟨rfl, below_setRow (HB2.out.later hb3 (Nat.le_refl _)) _ (by omega)⟩
end Go.Proofs.Ytbhhgmaibdkgbaa
