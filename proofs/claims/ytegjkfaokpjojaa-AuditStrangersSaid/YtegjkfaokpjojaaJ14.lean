/-
  Keys: what two keys share, the program's and the document's; the document's keys.
-/
import Derived.Test.YtegjkfaokpjojaaJ11
import Derived.Test.YtegjkfaokpjojaaJ13
import Derived.Laws.ResultCell
import Derived.Test.YtegjkfaokpjojaaJ1
import Derived.ChangeKeysEq
import Derived.Test.YtegjkfaokpjojaaJ6
import Derived.Test.YtegjkfaokpjojaaJ10
namespace Go.Proofs.Ytegjkfaokpjojaa
set_option maxRecDepth 100000
open Go.RowKit Pm
set_option linter.unusedVariables false
set_option linter.unusedSimpArgs false

theorem results_row_tmp {P : Program} {fn : Func} {p u : Tmp} {ty : TypeId} (h : fn.results = #[.cell p ty, .tmp u]) (tmps : Array Value) (w : World) (g : Nat) (t : TypeId) (cs : Array Value) (fr : Nat × Nat) (d : TypeDesc) (v2 : Value) (hv2 : tmps.getD u undef = v2)
    (hp : tmps.getD p undef = .pointer (some ⟨g, 0, none⟩)) (hg : w.heap[g]? = some (.cells cs t fr))
    (hu : P.underlying ty = some d) (hd : (match d with | .struct _ | .array _ _ => true | _ => false) = true) (hi : (P.info? ty).map (·.size) = some cs.size) :
    (results fn tmps).run P w = .ok (.tuple #[.agg cs, v2]) w := by
  rw [results_cell_tmp h, hp, hv2]
  simp [asAddr, run_loadVar_row w g t ty cs fr d hg hu hd hi, Result.andThen]

/-- what a number and a secret share -/
def shareW (p s : Int) : List UInt8 := deriveW (List.replicate 32 0) (sb ⟨#[115, 104, 97, 114, 101]⟩) (fourB (powI p s))
theorem derive_share (p s : Int) (g : Nat) (w : World) (t q : TypeId) (hF : Blk w g (HC (fourB (powI p s))) t) :
    Calls Try.prog 13 #[.agg zeros32, .string ⟨#[115, 104, 97, 114, 101]⟩, .slice (some ⟨w.heap.size, 0, none⟩) 1 1] (w.alloc (.cells #[.slice (some ⟨g, 0, none⟩) 4 4] q)) fun e w' => e = .returned (HV (shareW p s)) ∧ Below (w.alloc (.cells #[.slice (some ⟨g, 0, none⟩) 4 4] q)).heap.size (w.alloc (.cells #[.slice (some ⟨g, 0, none⟩) 4 4] q)) w' := by
  have e1 : [fourB (powI p s)].flatten = fourB (powI p s) := by simp
  have hr : Row8 w (some ⟨g, 0, none⟩) 4 (fourB (powI p s)) := Row8.ofBlk hF (by simp [maxLen, fourB]) 4 rfl
  have hR : RowR (w.alloc (.cells #[.slice (some ⟨g, 0, none⟩) 4 4] q)) (some ⟨w.heap.size, 0, none⟩) 1 [fourB (powI p s)] := RowR.one hr
  have h := derive_zero ⟨#[115, 104, 97, 114, 101]⟩ (by decide) _ 1 1 [fourB (powI p s)] _ hR
  rw [e1] at h
  exact h
theorem shareW_length (p s : Int) : (shareW p s).length = 32 := sumW_length _

/-- the document's keys -/
theorem rfrom_any (h : List UInt8) (hh : h.length = 32) (w : World) :
    Calls Try.prog 28 #[HV h] w fun e w' => e = .returned (.agg #[.int .i64 (U (numN h 8) % 1073741788 + 1), .int .i64 (powI 4 (U (numN h 8) % 1073741788 + 1))]) ∧ Below w.heap.size w w' := by
  obtain ⟨x, hx⟩ : ∃ x, U (numN h 8) % 1073741788 + 1 = x := ⟨_, rfl⟩
  have hB := Blk.new w (HC h) 25
  have hsz : (Try.prog.info? 25).map (·.size) = some (HC h).size := by rw [HC_size, hh]; kernel_rfl
  have HB := Lib.hid hB; have S1 := Lib.hid hsz; have HH := Lib.hid hh; have HX := Lib.hid hx
  rw [hx]
  clear hB hsz hh hx
  unfold HV
  go_enter Try.func28, Try.ntmps28
  go_wp2_with (first
    | (refine wpList_load_row rfl 25 _ rfl w.heap.size rfl 25 (HC h) (0, 0) _ (HB.out.alloc _) Try.underlying25 rfl S1.out ?_)
    | (go_at_call 42; refine (rscalar_any h HH.out _).mono ?_; rintro e w1 ⟨rfl, hb1⟩; rw [HX.out]
       have hK1 : Blk w1 (w.heap.size + 1) #[.int .i64 0, .int .i64 0] 51 := (Blk.newAt _ _ (by simp)).keep hb1
       have c0 : w1.cell? ⟨w.heap.size + 1, 0, none⟩ = some (.int .i64 0) := hK1.cell 0
       have c1 : w1.cell? ⟨w.heap.size + 1, 1, none⟩ = some (.int .i64 0) := hK1.cell 1
       have f0 := hK1.frozen 0
       have f1 := hK1.frozen 1
       have HB1 := Lib.hid ((((Below.refl _ w).next (Nat.le_refl _) _).next (Nat.le_refl _) _).later hb1 (Nat.le_refl _))
       have HK1 := Lib.hid hK1
       clear hK1 hb1)
    | (go_at_call 43; refine (rpow_any 4 x _).mono ?_; rintro e w' ⟨rfl, rfl⟩))
  have hK2 : Blk ((w1.setCell ⟨w.heap.size + 1, 0, none⟩ (.int .i64 x)).setCell ⟨w.heap.size + 1, 1, none⟩ (.int .i64 (powI 4 x))) (w.heap.size + 1) #[.int .i64 x, .int .i64 (powI 4 x)] 51 := ((HK1.out.set 0 _).set 1 _).copy rfl
  have hg2 : w1.grownBy ((w1.setCell ⟨w.heap.size + 1, 0, none⟩ (.int .i64 x)).setCell ⟨w.heap.size + 1, 1, none⟩ (.int .i64 (powI 4 x))) (some (w.heap.size + 1)) := grown_setCell (grown_setCell (grown_refl _ _) 0 _) 1 _
  have hs1 := HB1.out.size
  exact bodyPost_ret (v := .agg #[.int .i64 x, .int .i64 (powI 4 x)]) (results_cell_row rfl _ _ (w.heap.size + 1) _ #[.int .i64 x, .int .i64 (powI 4 x)] (0, 0) _ rfl hK2 Try.underlying51 rfl (by kernel_rfl)) rfl
    ⟨rfl, below_grown HB1.out hg2 (by omega) hs1⟩

theorem rderive_share (p s : Int) (g : Nat) (w : World) (t : TypeId) (hF : Blk w g (HC (fourB (powI p s))) t) :
    Calls Try.prog 30 #[.agg zeros32, .string ⟨#[115, 104, 97, 114, 101]⟩, .slice (some ⟨g, 0, none⟩) 4 4] w fun e w' => e = .returned (HV (shareW p s)) ∧ Below w.heap.size w w' :=
  rderive_any (List.replicate 32 0) rfl ⟨#[115, 104, 97, 114, 101]⟩ _ 4 4 (fourB (powI p s)) w (Row8.ofBlk hF (by simp [maxLen, fourB]) 4 rfl) (fun h => by cases h) (by simp [fourB]; decide)

end Go.Proofs.Ytegjkfaokpjojaa

/-
  '==' on arrays of integers. No program is named here.
-/
namespace Go.Proofs.Ytegjkfaokpjojaa
set_option maxRecDepth 100000
open Go.RowKit

section
variable {P : Program} (w : World)

def intCells (k : IntKind) (l : List Int) : Array Value := (l.map (Value.int k)).toArray
theorem intCells_get (k : IntKind) (l : List Int) (i : Nat) : (intCells k l)[i]? = (l[i]?).map (Value.int k) := by simp [intCells]

theorem run_part_int {e : TypeId} {k : IntKind} (hu : P.underlying e = some (.int k)) (cs : Array Value) (i : Nat) (v : Value) (h : cs[i]? = some v) : (part e cs (i * 1)).run P w = .ok v w := by
  rw [Nat.mul_one]
  simp [part, isAgg, Sem.run_bind, run_underlying hu, h]

theorem run_eqItems_int (d : Nat) {e : TypeId} {k : IntKind} (hu : P.underlying e = some (.int k)) (xs bs : List Int) : ∀ (m s : Nat), s + m ≤ xs.length → s + m ≤ bs.length →
    (Op.eqItems (d + 1) e 1 (intCells k xs) (intCells k bs) (List.range' s m)).run P w = .ok (decide ((xs.drop s).take m = (bs.drop s).take m)) w
  | 0, s, _, _ => by simp [Op.eqItems]
  | m + 1, s, ha, hb => by
    have h1 : (intCells k xs)[s]? = some (.int k xs[s]) := by rw [intCells_get, List.getElem?_eq_getElem (by omega)]; rfl
    have h2 : (intCells k bs)[s]? = some (.int k bs[s]) := by rw [intCells_get, List.getElem?_eq_getElem (by omega)]; rfl
    rw [List.range'_succ]
    simp only [Op.eqItems, Sem.run_bind, run_part_int w hu _ _ _ h1, run_part_int w hu _ _ _ h2, Result.andThen_ok, run_equalIn_int w d e k k xs[s] bs[s] hu]
    have e1 : (xs.drop s).take (m + 1) = xs[s] :: (xs.drop (s + 1)).take m := by rw [List.drop_eq_getElem_cons (by omega), List.take_succ_cons]
    have e2 : (bs.drop s).take (m + 1) = bs[s] :: (bs.drop (s + 1)).take m := by rw [List.drop_eq_getElem_cons (by omega), List.take_succ_cons]
    have ih := run_eqItems_int d hu xs bs m (s + 1) (by omega) (by omega)
    by_cases h : xs[s] = bs[s]
    · rw [show (xs[s] == bs[s]) = true by rw [h]; exact beq_self_eq_true _]
      simp only [Bool.not_true, Bool.false_eq_true, if_false]
      rw [ih, e1, e2, h]
      simp
    · rw [show (xs[s] == bs[s]) = false from beq_eq_false_iff_ne.2 h]
      simp only [Bool.not_false, if_true, Sem.run_pure]
      rw [e1, e2]
      simp [h]

theorem run_eql_ints {t e : TypeId} {n : Nat} {k : IntKind} {i : TypeInfo} (ht : P.underlying t = some (.array n e)) (hu : P.underlying e = some (.int k)) (hi : P.info? e = some i) (hc : P.cellsOf e = 1)
    (xs bs : List Int) (ha : xs.length = n) (hb : bs.length = n) : (binOp .eql t (.agg (intCells k xs)) (.agg (intCells k bs))).run P w = .ok (.bool (decide (xs = bs))) w := by
  rw [run_eql_struct, show (10000 : Nat) = 9998 + 1 + 1 from rfl, run_equalIn_array w _ _ _ ht hi, hc, List.range_eq_range', run_eqItems_int w 9998 hu xs bs n 0 (by omega) (by omega)]
  simp only [List.drop_zero, Result.andThen_ok]
  rw [List.take_of_length_le (by omega), List.take_of_length_le (by omega)]
theorem run_neq_ints {t e : TypeId} {n : Nat} {k : IntKind} {i : TypeInfo} (ht : P.underlying t = some (.array n e)) (hu : P.underlying e = some (.int k)) (hi : P.info? e = some i) (hc : P.cellsOf e = 1)
    (xs bs : List Int) (ha : xs.length = n) (hb : bs.length = n) : (binOp .neq t (.agg (intCells k xs)) (.agg (intCells k bs))).run P w = .ok (.bool (!decide (xs = bs))) w := by
  rw [run_neq_struct, show (10000 : Nat) = 9998 + 1 + 1 from rfl, run_equalIn_array w _ _ _ ht hi, hc, List.range_eq_range', run_eqItems_int w 9998 hu xs bs n 0 (by omega) (by omega)]
  simp only [List.drop_zero, Result.andThen_ok]
  rw [List.take_of_length_le (by omega), List.take_of_length_le (by omega)]

theorem HC_ints (l : List UInt8) : HC l = intCells .u8 (l.map Bt) := by simp [HC, intCells]
theorem Bt_list (l m : List UInt8) : decide (l.map Bt = m.map Bt) = (l == m) := by
  by_cases h : l = m
  · subst h; simp
  · rw [beq_eq_false_iff_ne.2 h]
    refine decide_eq_false fun e => h ?_
    exact (List.map_inj_right (f := Bt) (fun x y hxy => Bt_inj hxy)).1 e
theorem run_eql_hash {t e : TypeId} {i : TypeInfo} (ht : P.underlying t = some (.array 32 e)) (hu : P.underlying e = some (.int .u8)) (hi : P.info? e = some i) (hc : P.cellsOf e = 1)
    (l m : List UInt8) (hl : l.length = 32) (hm : m.length = 32) : (binOp .eql t (.agg (HC l)) (.agg (HC m))).run P w = .ok (.bool (l == m)) w := by
  rw [HC_ints, HC_ints, run_eql_ints w ht hu hi hc _ _ (by simpa using hl) (by simpa using hm), Bt_list]
theorem run_neq_hash {t e : TypeId} {i : TypeInfo} (ht : P.underlying t = some (.array 32 e)) (hu : P.underlying e = some (.int .u8)) (hi : P.info? e = some i) (hc : P.cellsOf e = 1)
    (l m : List UInt8) (hl : l.length = 32) (hm : m.length = 32) : (binOp .neq t (.agg (HC l)) (.agg (HC m))).run P w = .ok (.bool (!(l == m))) w := by
  rw [HC_ints, HC_ints, run_neq_ints w ht hu hi hc _ _ (by simpa using hl) (by simpa using hm), Bt_list]
theorem run_eql_words {t e : TypeId} {i : TypeInfo} (ht : P.underlying t = some (.array 5 e)) (hu : P.underlying e = some (.int .u64)) (hi : P.info? e = some i) (hc : P.cellsOf e = 1)
    (x y : W5) : (binOp .eql t (V5 x) (V5 y)).run P w = .ok (.bool (decide (x = y))) w := by
  have := run_eql_ints w ht hu hi hc [U x.a, U x.b, U x.c, U x.d, U x.e] [U y.a, U y.b, U y.c, U y.d, U y.e] rfl rfl
  refine Eq.trans this ?_
  congr 3
  apply propext
  constructor
  · intro h
    obtain ⟨a, b, c, d, e'⟩ := x
    obtain ⟨a', b', c', d', e''⟩ := y
    simp only [List.cons.injEq, and_true] at h
    rw [U_inj h.1, U_inj h.2.1, U_inj h.2.2.1, U_inj h.2.2.2.1, U_inj h.2.2.2.2]
  · rintro rfl; rfl
theorem equal_words {t e : TypeId} {i : TypeInfo} (ht : P.underlying t = some (.array 5 e)) (hu : P.underlying e = some (.int .u64)) (hi : P.info? e = some i) (hc : P.cellsOf e = 1)
    (x y : W5) : (Op.equalIn 10000 t (V5 x) (V5 y)).run P w = .ok (decide (x = y)) w := by
  have h := run_eql_words w ht hu hi hc x y
  rw [V5, V5, run_eql_struct] at h
  rw [V5, V5]
  generalize (Op.equalIn 10000 t _ _).run P w = r at *
  cases r <;> simp_all
theorem equal_hash {t e : TypeId} {i : TypeInfo} (ht : P.underlying t = some (.array 32 e)) (hu : P.underlying e = some (.int .u8)) (hi : P.info? e = some i) (hc : P.cellsOf e = 1)
    (l m : List UInt8) (hl : l.length = 32) (hm : m.length = 32) : (Op.equalIn 10000 t (.agg (HC l)) (.agg (HC m))).run P w = .ok (l == m) w := by
  have h := run_eql_hash w ht hu hi hc l m hl hm
  rw [run_eql_struct] at h
  generalize (Op.equalIn 10000 t _ _).run P w = r at *
  cases r <;> simp_all
end
end Go.Proofs.Ytegjkfaokpjojaa

/-
  '==' on sums, as this program numbers them.
-/
namespace Go.Proofs.Ytegjkfaokpjojaa
set_option maxRecDepth 100000
open Go.RowKit

theorem infoe8 : ∃ i, Try.prog.info? 5 = some i := by
  obtain ⟨i, hi, _⟩ := info_parts info8
  exact ⟨i, hi⟩

theorem eqh_guard (w : World) (o : BinOp) (p q : Operand) (x y : List UInt8) : (eqGuard o 25 p q (HV x) (HV y)).run Try.prog w = .ok () w :=
  run_eqGuard_agg w o 25 p q _ _ (by kernel_rfl)
theorem eqh (w : World) (x y : List UInt8) (hx : x.length = 32) (hy : y.length = 32) : (binOp .eql 25 (HV x) (HV y)).run Try.prog w = .ok (.bool (x == y)) w := by
  obtain ⟨i, hi⟩ := infoe8
  exact run_eql_hash w Try.underlying25 Try.underlying5 hi (by kernel_rfl) x y hx hy
theorem neh (w : World) (x y : List UInt8) (hx : x.length = 32) (hy : y.length = 32) : (binOp .neq 25 (HV x) (HV y)).run Try.prog w = .ok (.bool (!(x == y))) w := by
  obtain ⟨i, hi⟩ := infoe8
  exact run_neq_hash w Try.underlying25 Try.underlying5 hi (by kernel_rfl) x y hx hy
end Go.Proofs.Ytegjkfaokpjojaa

/-
  The laws over package pair: keys' numbers, what the laws take for known.
-/
namespace Go.Proofs.Ytegjkfaokpjojaa
set_option maxRecDepth 100000
open Go.RowKit Pm
set_option linter.unusedVariables false
set_option linter.unusedSimpArgs false
attribute [local go_sem] eqh_guard

/-- a sum's secret number -/
def keyS (h : List UInt8) : Int := U (numN h 8) % 1073741788 + 1
theorem keyS_bd (h : List UInt8) : 1 ≤ keyS h ∧ keyS h < 1073741789 := by
  have hbd := U_bd (numN h 8)
  unfold keyS
  omega
theorem from_k (h : List UInt8) (hh : h.length = 32) (w : World) :
    Calls Try.prog 36 #[HV h] w fun e w' => ∃ g, e = .returned (.pointer (some ⟨g, 0, none⟩)) ∧ w.heap.size ≤ g ∧ Blk w' g (CK (keyS h) 0 0 0 0) 103 ∧ Below w.heap.size w w' := from_any h hh w
theorem rfrom_k (h : List UInt8) (hh : h.length = 32) (w : World) :
    Calls Try.prog 28 #[HV h] w fun e w' => e = .returned (.agg #[.int .i64 (keyS h), .int .i64 (powI 4 (keyS h))]) ∧ Below w.heap.size w w' := rfrom_any h hh w

/-- one, and thirty-one noughts -/
def one32 : Array Value := #[.int .u8 1, .int .u8 0, .int .u8 0, .int .u8 0, .int .u8 0, .int .u8 0, .int .u8 0, .int .u8 0, .int .u8 0, .int .u8 0, .int .u8 0, .int .u8 0, .int .u8 0, .int .u8 0, .int .u8 0, .int .u8 0, .int .u8 0,
  .int .u8 0, .int .u8 0, .int .u8 0, .int .u8 0, .int .u8 0, .int .u8 0, .int .u8 0, .int .u8 0, .int .u8 0, .int .u8 0, .int .u8 0, .int .u8 0, .int .u8 0, .int .u8 0, .int .u8 0]
def ones : List UInt8 := 1 :: List.replicate 31 0
theorem one32_HC : one32 = HC ones := by rfl
theorem from_one (w : World) :
    Calls Try.prog 36 #[.agg one32] w fun e w' => ∃ g, e = .returned (.pointer (some ⟨g, 0, none⟩)) ∧ w.heap.size ≤ g ∧ Blk w' g (CK (keyS ones) 0 0 0 0) 103 ∧ Below w.heap.size w w' := by
  rw [one32_HC]; exact from_k ones rfl w
theorem rfrom_one (w : World) :
    Calls Try.prog 28 #[.agg one32] w fun e w' => e = .returned (.agg #[.int .i64 (keyS ones), .int .i64 (powI 4 (keyS ones))]) ∧ Below w.heap.size w w' := by
  rw [one32_HC]; exact rfrom_k ones rfl w

theorem key_y (a b : Int) (w : World) : (Instr.field 51 (.agg #[.int .i64 a, .int .i64 b]) 1).run Try.prog w = .ok (.int .i64 b) w := by
  simp [Instr.field, asAgg, go_sem, Try.underlying51, Try.underlying3]
theorem key_x (a b : Int) (w : World) : (Instr.field 51 (.agg #[.int .i64 a, .int .i64 b]) 0).run Try.prog w = .ok (.int .i64 a) w := by
  simp [Instr.field, asAgg, go_sem, Try.underlying51, Try.underlying3]
attribute [local go_sem] key_y key_x

end Go.Proofs.Ytegjkfaokpjojaa

/-
  Keys in whichever state: what each method does to it, in one contract each.
-/
namespace Go.Proofs.Ytegjkfaokpjojaa
set_option maxRecDepth 100000
open Go.RowKit Pm
set_option linter.unusedVariables false
set_option linter.unusedSimpArgs false

/-- a key: its secret number, whether its public number was worked out, its uses -/
def CD (s : Int) (d : Bool) (us : Int) : Array Value := CK s (if d then 1 else 0) (if d then powI 4 s else 0) (if d then 1 else 0) us
/-- what is shared, or noughts -/
def shW (p s : Int) : List UInt8 := if isI p then shareW p s else List.replicate 32 0
theorem shW_length (p s : Int) : (shW p s).length = 32 := by
  unfold shW
  split
  · exact shareW_length _ _
  · rfl
def cnt (b : Bool) : Int := if b then 1 else 0
theorem cnt_bd (b : Bool) : 0 ≤ cnt b ∧ cnt b ≤ 1 := by cases b <;> simp [cnt]

theorem public_st (g : Nat) (s us : Int) (d : Bool) (hs : 0 ≤ s ∧ s < 1073741789) (w : World) (hk : Blk w g (CD s d us) 103) :
    Calls Try.prog 23 #[.pointer (some ⟨g, 0, none⟩)] w fun e w' => e = .returned (.int .i64 (powI 4 s)) ∧ Blk w' g (CD s true us) 103 ∧ w.grownBy w' (some g) := by
  cases d with
  | false => exact public_first g s us hs w hk
  | true =>
    refine (public_again g s (powI 4 s) 1 us w hk).mono ?_
    rintro e w' ⟨rfl, hb⟩
    exact ⟨rfl, Blk.keep hk hb, grown_below (grown_refl w _) hb⟩
theorem public_done (g : Nat) (s us : Int) (w : World) (hk : Blk w g (CD s true us) 103) :
    Calls Try.prog 23 #[.pointer (some ⟨g, 0, none⟩)] w fun e w' => e = .returned (.int .i64 (powI 4 s)) ∧ Below w.heap.size w w' := public_again g s (powI 4 s) 1 us w hk
end Go.Proofs.Ytegjkfaokpjojaa

/-
  Sums, keys: what was walked of them, as the machine without memory calls it.
-/
namespace Go.Proofs.Ytegjkfaokpjojaa
set_option maxRecDepth 100000
open Go.RowKit Pm
set_option linter.unusedVariables false
set_option linter.unusedSimpArgs false

/-- one row of bytes that is handed in -/
def rowK : A → (List UInt8 → Prop) → Prop
  | .row n [.bytes m b], K => n = m ∧ K b
  | .row 0 [], K => K []
  | .v (.slice none 0 0), K => K []
  | _, _ => False
def listK : List A → (List (List UInt8) → Prop) → Prop
  | [], K => K []
  | a :: r, K => rowK a fun b => listK r fun L => K (b :: L)
/-- rows of bytes that are handed in -/
def rowsOfK : A → (List (List UInt8) → Prop) → Prop
  | .row n [.gen m rs], K => n = m ∧ listK rs K
  | .v (.slice none 0 0), K => K []
  | _, _ => False
theorem rowK_spec {x : A} {K : List UInt8 → Prop} (h : rowK x K) : ∃ b, K b ∧ ∀ {S : Nat → Prop} {w : World} {v : Value}, RA S w x v → ∃ a n c, v = .slice a n c ∧ Row8 w a n b ∧ (a = none → c = 0) := by
  unfold rowK at h
  split at h
  · next n m b =>
    obtain ⟨rfl, h⟩ := h
    refine ⟨b, h, fun {S w v} hv => ?_⟩
    cases hv with
    | row k1 k2 k3 k4 k5 =>
      rename_i c cs ad
      obtain ⟨e1, e2⟩ := k1.toBytes
      refine ⟨ad, _, c, rfl, ⟨e1.symm, by rw [e1]; exact Nat.le_trans k2 k3, ?_⟩, k4⟩
      rcases k5 with k5 | ⟨q, o', k6, _, _, k7⟩
      · left; rw [e2] at k5; exact List.map_eq_nil_iff.1 k5
      · refine .inr ⟨q, o', k6, fun i hi => ?_⟩
        subst e2
        rw [k7 i (by simpa [HL] using hi)]
        simp [HL]
  · refine ⟨[], h, fun {S w v} hv => ?_⟩
    cases hv with
    | row k1 k2 k3 k4 k5 => exact ⟨_, _, _, rfl, Row8.nil _ _, k4⟩
  · refine ⟨[], h, fun {S w v} hv => ?_⟩
    rw [RA.plain hv]
    exact ⟨none, 0, 0, rfl, Row8.nil _ _, fun _ => rfl⟩
  · exact h.elim
theorem listK_spec : ∀ {l : List A} {K : List (List UInt8) → Prop}, listK l K → ∃ L, K L ∧ L.length = l.length ∧ ∀ {S : Nat → Prop} {w : World} {vs : List Value}, RG S w l vs → ∀ (i : Nat) (h : i < L.length), ∃ a n c, vs[i]? = some (.slice a n c) ∧ Row8 w a n L[i] ∧ (a = none → c = 0)
  | [], K, h => ⟨[], h, rfl, fun _ i hi => by simp at hi⟩
  | a :: r, K, h => by
    obtain ⟨b, h1, h2⟩ := rowK_spec h
    obtain ⟨L, h3, h4, h5⟩ := listK_spec h1
    refine ⟨b :: L, h3, by simp [h4], fun {S w vs} hv i hi => ?_⟩
    cases hv with
    | cons k1 k2 k3 =>
      cases i with
      | zero =>
        obtain ⟨a', n, c, rfl, h6, h7⟩ := h2 k1
        exact ⟨a', n, c, rfl, h6, h7⟩
      | succ i => simpa using h5 k3 i (by simpa using hi)
theorem rowsOfK_spec {x : A} {K : List (List UInt8) → Prop} (h : rowsOfK x K) : ∃ L, K L ∧ ∀ {S : Nat → Prop} {w : World} {v : Value}, RA S w x v → ∃ a n c, v = .slice a n c ∧ RowR w a n L ∧ (a = none → c = 0) ∧
    (L = [] ∨ ∃ b off, a = some ⟨b, off, none⟩ ∧ ∀ (i : Nat) (h : i < L.length), ∃ a' l' c', w.cell? ⟨b, off + i, none⟩ = some (.slice a' l' c') ∧ Row8 w a' l' L[i] ∧ (a' = none → c' = 0)) := by
  unfold rowsOfK at h
  split at h
  · next n m rs =>
    obtain ⟨rfl, h⟩ := h
    obtain ⟨L, h1, h2, h3⟩ := listK_spec h
    refine ⟨L, h1, fun {S w v} hv => ?_⟩
    cases hv with
    | row k1 k2 k3 k4 k5 =>
      rename_i c cs ad
      obtain ⟨e1, e2⟩ := k1.toGen
      have hl : L.length = n := by rw [h2, e1]
      have key : L = [] ∨ ∃ b off, ad = some ⟨b, off, none⟩ ∧ ∀ (i : Nat) (h : i < L.length), ∃ a' l' c', w.cell? ⟨b, off + i, none⟩ = some (.slice a' l' c') ∧ Row8 w a' l' L[i] ∧ (a' = none → c' = 0) := by
        rcases k5 with k5 | ⟨q, o', k6, _, _, k7⟩
        · left
          have := e2.len
          rw [k5] at this
          exact List.length_eq_zero_iff.1 (by rw [h2]; exact this.symm)
        · refine .inr ⟨q, o', k6, fun i hi => ?_⟩
          obtain ⟨a', l', c', e3, e4, e5⟩ := h3 e2 i hi
          obtain ⟨e6, e7⟩ := List.getElem?_eq_some_iff.1 e3
          exact ⟨a', l', c', by rw [k7 i e6, e7], e4, e5⟩
      refine ⟨ad, _, c, rfl, ⟨hl.symm, by rw [hl]; exact Nat.le_trans k2 k3, ?_⟩, k4, key⟩
      rcases key with h0 | ⟨b, off, h4, h5⟩
      · exact .inl h0
      · exact .inr ⟨b, off, h4, fun i hi => by obtain ⟨a', l', c', e1, e2, _⟩ := h5 i hi; exact ⟨a', l', c', e1, e2⟩⟩
  · refine ⟨[], h, fun {S w v} hv => ?_⟩
    rw [RA.plain hv]
    exact ⟨none, 0, 0, rfl, ⟨rfl, by simp, .inl rfl⟩, fun _ => rfl, .inl rfl⟩
  · exact h.elim
theorem hash_of {S : Nat → Prop} {w : World} {h : List UInt8} {v : Value} (hv : RA S w (.agg [.bytes 32 h]) v) : v = HV h ∧ h.length = 32 := by
  cases hv with
  | agg k =>
    obtain ⟨e1, e2⟩ := k.toBytes
    subst e2
    exact ⟨rfl, e1⟩
theorem ra_hash {S : Nat → Prop} {w : World} {h : List UInt8} (hl : h.length = 32) : RA S w (.agg [.bytes 32 h]) (HV h) := .agg (.ofBytes hl rfl)
theorem ra_one {S : Nat → Prop} {w : World} {a : A} {vs : List Value} (h : RAs S w [a] vs) : ∃ v, vs = [v] ∧ RA S w a v := by
  cases h with | cons h r => cases r; exact ⟨_, rfl, h⟩
theorem ra_three {S : Nat → Prop} {w : World} {a b c : A} {vs : List Value} (h : RAs S w [a, b, c] vs) : ∃ x y z, vs = [x, y, z] ∧ RA S w a x ∧ RA S w b y ∧ RA S w c z := by
  cases h with | cons h r => cases r with | cons h2 r => cases r with | cons h3 r => cases r; exact ⟨_, _, _, rfl, h, h2, h3⟩

def deriveS : List A → (Res → Prop) → Prop
  | [.agg [.bytes 32 h], .v (.string s), x], K => s.size ≤ 1000000 ∧ rowsOfK x fun L => K (.d (.agg [.bytes 32 (deriveW h (sb s) L.flatten)]))
  | _, _ => False
theorem deriveS_ok : ∀ args K, deriveS args K → ∃ r, FnO 13 args r ∧ K r := by
  intro args K hd
  unfold deriveS at hd
  split at hd
  · next h s x =>
    obtain ⟨hs, hd⟩ := hd
    obtain ⟨L, hK, hL⟩ := rowsOfK_spec hd
    refine ⟨_, fun S w vs _ ha => ?_, hK⟩
    obtain ⟨v1, v2, v3, rfl, h1, h2, h3⟩ := ra_three ha
    obtain ⟨rfl, hh⟩ := hash_of h1
    rw [RA.plain h2]
    obtain ⟨a, n, c, rfl, h4, _⟩ := hL h3
    refine (derive_any h hh s (by unfold maxLen; omega) a n c L w h4).mono ?_
    rintro e w' ⟨rfl, hb⟩
    exact ⟨_, rfl, ra_hash (sumW_length _), hb⟩
  · exact hd.elim
def rderiveS : List A → (Res → Prop) → Prop
  | [.agg [.bytes 32 h], .v (.string s), x], K => s.size ≤ 1000000 ∧ rowK x fun b => b.length ≤ 100000000 ∧ K (.d (.agg [.bytes 32 (deriveW h (sb s) b)]))
  | _, _ => False
theorem rderiveS_ok : ∀ args K, rderiveS args K → ∃ r, FnO 30 args r ∧ K r := by
  intro args K hd
  unfold rderiveS at hd
  split at hd
  · next h s x =>
    obtain ⟨hs, hd⟩ := hd
    obtain ⟨b, ⟨hbl, hK⟩, hL⟩ := rowK_spec hd
    refine ⟨_, fun S w vs _ ha => ?_, hK⟩
    obtain ⟨v1, v2, v3, rfl, h1, h2, h3⟩ := ra_three ha
    obtain ⟨rfl, hh⟩ := hash_of h1
    rw [RA.plain h2]
    obtain ⟨a, n, c, rfl, h4, h5⟩ := hL h3
    refine (rderive_any h hh s a n c b w h4 h5 (by omega)).mono ?_
    rintro e w' ⟨rfl, hb⟩
    exact ⟨_, rfl, ra_hash (sumW_length _), hb⟩
  · exact hd.elim

/-- a key's secret number, out of a sum -/
def scal (h : List UInt8) : Int := U (numN h 8) % 1073741788 + 1
theorem scal_bd (h : List UInt8) : 1 ≤ scal h ∧ scal h < 1073741789 := by
  unfold scal
  have := Int.emod_nonneg (U (numN h 8)) (show (1073741788 : Int) ≠ 0 by decide)
  have := Int.emod_lt_of_pos (U (numN h 8)) (show (0 : Int) < 1073741788 by decide)
  omega
/-- a key as the program keeps it: its secret number -/
def KeyP (s : Int) (cs : List Value) (t : TypeId) : Prop := t = 103 ∧ ∃ d us, cs.toArray = CD s d us
def fromS : List A → (Res → Prop) → Prop
  | [.agg [.bytes 32 h]], K => K (.p (.obj (KeyP (scal h))))
  | _, _ => False
theorem fromS_ok : ∀ args K, fromS args K → ∃ r, FnO 36 args r ∧ K r := by
  intro args K hd
  unfold fromS at hd
  split at hd
  · next h =>
    refine ⟨_, fun S w vs _ ha => ?_, hd⟩
    obtain ⟨v, rfl, h1⟩ := ra_one ha
    obtain ⟨rfl, hh⟩ := hash_of h1
    refine (from_any h hh w).mono ?_
    rintro e w' ⟨g, rfl, hg, hb, hB⟩
    exact ⟨_, rfl, ⟨g, rfl, hg, (CK (U (numN h 8) % 1073741788 + 1) 0 0 0 0).toList, _, hb, rfl, false, 0, rfl⟩, hB⟩
  · exact hd.elim
def publicS : Nat → Bk → List A → (Res → Bk → Prop) → Prop
  | 0, .obj p, [], K => ∃ s, p = KeyP s ∧ 0 ≤ s ∧ s < 1073741789 ∧ K (.d (.v (.int .i64 (powI 4 s)))) (.obj (KeyP s))
  | _, _, _, _ => False
theorem publicS_ok : ∀ pos x args K, publicS pos x args K → ∃ r x', FnMO 23 pos x args r x' ∧ K r x' := by
  intro pos x args K hd
  unfold publicS at hd
  split at hd
  · next p =>
    obtain ⟨s, rfl, h0, h1, hK⟩ := hd
    refine ⟨_, _, fun S w r vs hr _ hx ha => ?_, hK⟩
    cases ha
    obtain ⟨cs, t, h2, rfl, d, us, h3⟩ := hx
    have hb : Blk w r (CD s d us) 103 := by unfold Blk; rw [h2, ← h3]
    refine (public_st r s us d ⟨h0, h1⟩ w hb).mono ?_
    rintro e w' ⟨rfl, h4, h5⟩
    exact ⟨_, rfl, .v _, ⟨(CD s true us).toList, _, h4, rfl, true, us, rfl⟩, h5⟩
  · exact hd.elim
def rfromS : List A → (Res → Prop) → Prop
  | [.agg [.bytes 32 h]], K => K (.d (.agg [.ints .i64 2 [scal h, powI 4 (scal h)]]))
  | _, _ => False
theorem rfromS_ok : ∀ args K, rfromS args K → ∃ r, FnO 28 args r ∧ K r := by
  intro args K hd
  unfold rfromS at hd
  split at hd
  · next h =>
    refine ⟨_, fun S w vs _ ha => ?_, hd⟩
    obtain ⟨v, rfl, h1⟩ := ra_one ha
    obtain ⟨rfl, hh⟩ := hash_of h1
    refine (rfrom_any h hh w).mono ?_
    rintro e w' ⟨rfl, hB⟩
    exact ⟨_, rfl, ra_ints (zs := [scal h, powI 4 (scal h)]) rfl, hB⟩
  · exact hd.elim
end Go.Proofs.Ytegjkfaokpjojaa

/-
  make([]byte, n). No program is named here.
-/
namespace Go.Proofs.Ytegjkfaokpjojaa
set_option maxRecDepth 100000
open Go.RowKit
set_option linter.unusedVariables false
set_option linter.unusedSimpArgs false

theorem made8 (n : Nat) : (madeCells (Value.int .u8 0).cells (n * 1)).toList = HL (List.replicate n 0) := by
  refine List.ext_getElem? fun i => ?_
  simp [madeCells, HL, Value.cells, List.getElem?_replicate]
  by_cases h : i < n
  · simp [h, Bt, Nat.mod_one]
  · simp [h]
theorem blk_of_own {w : World} {base g n : Nat} {e : TypeId} {bs : List UInt8} (h : w.ownsRow base e 1 (.slice (some ⟨g, 0, none⟩) n n) n (HL bs)) : Blk w g (HC bs) e := by
  rcases h.2 with ⟨h1, _⟩ | ⟨g', cap, cur, h1, _, h2, h3, _, h4, h5⟩
  · cases h1
  · injection h1 with h1 _ h6
    injection h1 with h1
    injection h1 with h1
    subst h1; subst h6
    have : cur = HC bs := by
      apply Array.toList_inj.1
      rw [HC_toList, ← h5, List.take_of_length_le (by simp [h4])]
    rw [← this]; exact h2
theorem mod8B (x : Int) : x % 256 = Bt (UInt8.ofNat (x % 256).toNat) := by
  unfold Bt
  rw [UInt8.toNat_ofNat']
  omega
end Go.Proofs.Ytegjkfaokpjojaa

/-
  Numbers and rows as bytes. No function is named here.
-/
namespace Go.Proofs.Ytegjkfaokpjojaa
set_option maxRecDepth 100000
open Go.RowKit
set_option linter.unusedVariables false

/-- a number's eight bytes -/
def numB (n : Int) : List UInt8 := [lowB n 56, lowB n 48, lowB n 40, lowB n 32, lowB n 24, lowB n 16, lowB n 8, lowB n 0]
theorem numB_length (n : Int) : (numB n).length = 8 := rfl
theorem numB_get (n : Int) (k : Nat) (h : k < 8) : (numB n)[k]? = some (lowB n (56 - 8 * k)) := by
  match k, h with
  | 0, _ => rfl
  | 1, _ => rfl
  | 2, _ => rfl
  | 3, _ => rfl
  | 4, _ => rfl
  | 5, _ => rfl
  | 6, _ => rfl
  | 7, _ => rfl
def partN (n : Int) (k : Nat) : List UInt8 := (numB n).take k ++ List.replicate (8 - k) 0
theorem partN_zero (n : Int) : partN n 0 = List.replicate 8 0 := rfl
theorem partN_all (n : Int) : partN n 8 = numB n := rfl
theorem partN_length (n : Int) (k : Nat) (h : k ≤ 8) : (partN n k).length = 8 := by simp [partN, numB_length]; omega
theorem partN_set (n : Int) (k : Nat) (h : k < 8) : (partN n k).set k (lowB n (56 - 8 * k)) = partN n (k + 1) := by
  match k, h with
  | 0, _ => rfl
  | 1, _ => rfl
  | 2, _ => rfl
  | 3, _ => rfl
  | 4, _ => rfl
  | 5, _ => rfl
  | 6, _ => rfl
  | 7, _ => rfl
theorem shift_factsR (k : Nat) (h : k ≤ 7) : IntKind.i64.wrap (8 * (k : Int)) = 8 * (k : Int) ∧ IntKind.i64.wrap (56 - 8 * (k : Int)) = 56 - 8 * (k : Int) ∧ 0 ≤ 56 - 8 * (k : Int) ∧ (56 - 8 * (k : Int)).toNat = 56 - 8 * k ∧ 56 - 8 * k ≤ 64 :=
  ⟨IntWalk.i64_in _ (by omega), IntWalk.i64_in _ (by omega), by omega, by omega, by omega⟩

/-- a row's length in two bytes -/
def rowHead (n : Nat) : List UInt8 := [UInt8.ofNat (n / 256), UInt8.ofNat n]
/-- rows as bytes, so many of them -/
def packP (L : List (List UInt8)) (k : Nat) : List UInt8 := UInt8.ofNat L.length :: (L.take k).flatMap fun p => rowHead p.length ++ p
def packW (L : List (List UInt8)) : List UInt8 := packP L L.length
def okRows (L : List (List UInt8)) : Bool := decide (L.length ≤ 60) && L.all fun p => decide (p.length ≤ 2000)
theorem packP_zero (L : List (List UInt8)) : packP L 0 = [UInt8.ofNat L.length] := by simp [packP]
theorem packP_succ (L : List (List UInt8)) (k : Nat) (h : k < L.length) : packP L (k + 1) = packP L k ++ rowHead L[k].length ++ L[k] := by
  unfold packP
  rw [List.take_add_one, List.getElem?_eq_getElem h, List.flatMap_append]
  simp
theorem Bt_ofNat (n : Nat) : Bt (UInt8.ofNat n) = (n : Int) % 256 := by
  unfold Bt
  rw [UInt8.toNat_ofNat']
  omega
theorem okRows_many {L : List (List UInt8)} (h : ¬ L.length ≤ 60) : okRows L = false := by unfold okRows; rw [decide_eq_false h]; rfl
theorem okRows_long {L : List (List UInt8)} (k : Nat) (hk : k < L.length) (h : ¬ L[k].length ≤ 2000) : okRows L = false := by
  unfold okRows
  rw [Bool.and_eq_false_iff]
  right
  rw [Bool.eq_false_iff]
  intro hall
  exact h (of_decide_eq_true (List.all_eq_true.1 hall L[k] (List.getElem_mem hk)))
theorem okRows_all {L : List (List UInt8)} (h1 : L.length ≤ 60) (h : ∀ (i : Nat) (hi : i < L.length), L[i].length ≤ 2000) : okRows L = true := by
  unfold okRows
  rw [decide_eq_true h1, Bool.true_and, List.all_eq_true]
  intro p hp
  obtain ⟨i, hi, rfl⟩ := List.getElem_of_mem hp
  exact decide_eq_true (h i hi)

/-- bytes as a number -/
def numK (b : List UInt8) : Nat := b.foldl (fun n c => n * 256 + c.toNat) 0
def isNum (b : List UInt8) : Bool := b.length == 8 && decide ((b.getD 0 0).toNat ≤ 127)
def numT (b : List UInt8) : Int := if isNum b then (numK b : Int) else 0
theorem numK_zero (b : List UInt8) : numK (b.take 0) = 0 := by simp [numK]
theorem numK_succ (b : List UInt8) (k : Nat) (h : k < b.length) : numK (b.take (k + 1)) = numK (b.take k) * 256 + b[k].toNat := by
  unfold numK
  rw [List.take_add_one, List.getElem?_eq_getElem h, List.foldl_append]
  simp
theorem numK_bd (b : List UInt8) (h0 : (b.getD 0 0).toNat ≤ 127) : ∀ (k : Nat), k < b.length → numK (b.take (k + 1)) < 128 * 256 ^ k
  | 0, h => by
    rw [numK_succ b 0 h, numK_zero]
    rw [List.getD_eq_getElem?_getD, List.getElem?_eq_getElem h] at h0
    simp at h0 ⊢
    omega
  | k + 1, h => by
    have ih := numK_bd b h0 k (by omega)
    rw [numK_succ b (k + 1) h]
    have hc := UInt8.toNat_lt b[k + 1]
    have e : 128 * 256 ^ (k + 1) = 128 * 256 ^ k * 256 := by rw [Nat.pow_succ, Nat.mul_assoc]
    rw [e]
    omega
theorem numK_lim (b : List UInt8) (h0 : (b.getD 0 0).toNat ≤ 127) (hl : b.length = 8) (k : Nat) (h : k < 8) : numK (b.take k) * 256 + 255 < 9223372036854775808 := by
  match k, h with
  | 0, _ => rw [numK_zero]; decide
  | k + 1, h =>
    have h1 := numK_bd b h0 k (by omega)
    have h2 : 256 ^ k ≤ 256 ^ 6 := Nat.pow_le_pow_right (by decide) (by omega)
    have e : (256 : Nat) ^ 6 = 281474976710656 := by decide
    rw [e] at h2
    omega
theorem or_join (a b : Nat) (hb : b < 256) (hs : a * 256 + b < 9223372036854775808) : bits .or .i64 ((a : Int) * 256) (b : Int) = ((a * 256 + b : Nat) : Int) := by
  have e1 : (a : Int) * 256 = ((a * 256 : Nat) : Int) := by omega
  rw [e1]
  show IntKind.i64.wrap ((BitVec.ofInt 64 ((a * 256 : Nat) : Int) ||| BitVec.ofInt 64 (b : Int)).toNat : Int) = _
  rw [BitVec.ofInt_natCast, BitVec.ofInt_natCast, BitVec.toNat_or, BitVec.toNat_ofNat, BitVec.toNat_ofNat, Nat.mod_eq_of_lt (by omega), Nat.mod_eq_of_lt (by omega)]
  have h := Nat.shiftLeft_add_eq_or_of_lt (show b < 2 ^ 8 by omega) a
  rw [Nat.shiftLeft_eq] at h
  have h2 : a * 256 ||| b = a * 256 + b := h.symm
  rw [h2, IntWalk.i64_in _ (by omega)]
end Go.Proofs.Ytegjkfaokpjojaa
