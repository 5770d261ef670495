/-
  '==' on arrays of integers. No program is named here.
-/
import Derived.Test.YtcfdlffjghlghaaSpWords
import Derived.ChangeKeysEq
namespace Go.Proofs.Ytcfdlffjghlghaa
set_option maxRecDepth 100000
open Go.RowKit

section
variable {P : Program} (w : World)

def intCells (k : IntKind) (l : List Int) : Array Value := (l.map (Value.int k)).toArray
theorem intCells_get (k : IntKind) (l : List Int) (i : Nat) : (intCells k l)[i]? = (l[i]?).map (Value.int k) := by simp [intCells]

theorem run_part_int {e : TypeId} {k : IntKind} (hu : P.underlying e = some (.int k)) (cs : Array Value) (i : Nat) (v : Value) (h : cs[i]? = some v) : (part e cs (i * 1)).run P w = .ok v w := by
  rw [Nat.mul_one]
  simp [part, isAgg, Sem.run_bind, run_underlying hu, h]

theorem run_eqItems_int (d : Nat) {e : TypeId} {k : IntKind} (hu : P.underlying e = some (.int k)) (xs bs : List Int) : ∀ (m s : Nat), s + m ≤ xs.length → s + m ≤ bs.length →
    (Op.eqItems (d + 1) e 1 (intCells k xs) (intCells k bs) (List.range' s m)).run P w = .ok (decide ((xs.drop s).take m = (bs.drop s).take m)) w
  | 0, s, _, _ => by simp [Op.eqItems]
  | m + 1, s, ha, hb => by
    have h1 : (intCells k xs)[s]? = some (.int k xs[s]) := by rw [intCells_get, List.getElem?_eq_getElem (by omega)]; rfl
    have h2 : (intCells k bs)[s]? = some (.int k bs[s]) := by rw [intCells_get, List.getElem?_eq_getElem (by omega)]; rfl
    rw [List.range'_succ]
    simp only [Op.eqItems, Sem.run_bind, run_part_int w hu _ _ _ h1, run_part_int w hu _ _ _ h2, Result.andThen_ok, run_equalIn_int w d e k k xs[s] bs[s] hu]
    have e1 : (xs.drop s).take (m + 1) = xs[s] :: (xs.drop (s + 1)).take m := by rw [List.drop_eq_getElem_cons (by omega), List.take_succ_cons]
    have e2 : (bs.drop s).take (m + 1) = bs[s] :: (bs.drop (s + 1)).take m := by rw [List.drop_eq_getElem_cons (by omega), List.take_succ_cons]
    have ih := run_eqItems_int d hu xs bs m (s + 1) (by omega) (by omega)
    by_cases h : xs[s] = bs[s]
    · rw [show (xs[s] == bs[s]) = true by rw [h]; exact beq_self_eq_true _]
      simp only [Bool.not_true, Bool.false_eq_true, if_false]
      rw [ih, e1, e2, h]
      simp
    · rw [show (xs[s] == bs[s]) = false from beq_eq_false_iff_ne.2 h]
      simp only [Bool.not_false, if_true, Sem.run_pure]
      rw [e1, e2]
      simp [h]

theorem run_eql_ints {t e : TypeId} {n : Nat} {k : IntKind} {i : TypeInfo} (ht : P.underlying t = some (.array n e)) (hu : P.underlying e = some (.int k)) (hi : P.info? e = some i) (hc : P.cellsOf e = 1)
    (xs bs : List Int) (ha : xs.length = n) (hb : bs.length = n) : (binOp .eql t (.agg (intCells k xs)) (.agg (intCells k bs))).run P w = .ok (.bool (decide (xs = bs))) w := by
  rw [run_eql_struct, show (10000 : Nat) = 9998 + 1 + 1 from rfl, run_equalIn_array w _ _ _ ht hi, hc, List.range_eq_range', run_eqItems_int w 9998 hu xs bs n 0 (by omega) (by omega)]
  simp only [List.drop_zero, Result.andThen_ok]
  rw [List.take_of_length_le (by omega), List.take_of_length_le (by omega)]
theorem run_neq_ints {t e : TypeId} {n : Nat} {k : IntKind} {i : TypeInfo} (ht : P.underlying t = some (.array n e)) (hu : P.underlying e = some (.int k)) (hi : P.info? e = some i) (hc : P.cellsOf e = 1)
    (xs bs : List Int) (ha : xs.length = n) (hb : bs.length = n) : (binOp .neq t (.agg (intCells k xs)) (.agg (intCells k bs))).run P w = .ok (.bool (!decide (xs = bs))) w := by
  rw [run_neq_struct, show (10000 : Nat) = 9998 + 1 + 1 from rfl, run_equalIn_array w _ _ _ ht hi, hc, List.range_eq_range', run_eqItems_int w 9998 hu xs bs n 0 (by omega) (by omega)]
  simp only [List.drop_zero, Result.andThen_ok]
  rw [List.take_of_length_le (by omega), List.take_of_length_le (by omega)]

theorem HC_ints (l : List UInt8) : HC l = intCells .u8 (l.map Bt) := by simp [HC, intCells]
theorem Bt_list (l m : List UInt8) : decide (l.map Bt = m.map Bt) = (l == m) := by
  by_cases h : l = m
  · subst h; simp
  · rw [beq_eq_false_iff_ne.2 h]
    refine decide_eq_false fun e => h ?_
    exact (List.map_inj_right (f := Bt) (fun x y hxy => Bt_inj hxy)).1 e
theorem run_eql_hash {t e : TypeId} {i : TypeInfo} (ht : P.underlying t = some (.array 32 e)) (hu : P.underlying e = some (.int .u8)) (hi : P.info? e = some i) (hc : P.cellsOf e = 1)
    (l m : List UInt8) (hl : l.length = 32) (hm : m.length = 32) : (binOp .eql t (.agg (HC l)) (.agg (HC m))).run P w = .ok (.bool (l == m)) w := by
  rw [HC_ints, HC_ints, run_eql_ints w ht hu hi hc _ _ (by simpa using hl) (by simpa using hm), Bt_list]
theorem run_neq_hash {t e : TypeId} {i : TypeInfo} (ht : P.underlying t = some (.array 32 e)) (hu : P.underlying e = some (.int .u8)) (hi : P.info? e = some i) (hc : P.cellsOf e = 1)
    (l m : List UInt8) (hl : l.length = 32) (hm : m.length = 32) : (binOp .neq t (.agg (HC l)) (.agg (HC m))).run P w = .ok (.bool (!(l == m))) w := by
  rw [HC_ints, HC_ints, run_neq_ints w ht hu hi hc _ _ (by simpa using hl) (by simpa using hm), Bt_list]
theorem run_eql_words {t e : TypeId} {i : TypeInfo} (ht : P.underlying t = some (.array 5 e)) (hu : P.underlying e = some (.int .u64)) (hi : P.info? e = some i) (hc : P.cellsOf e = 1)
    (x y : W5) : (binOp .eql t (V5 x) (V5 y)).run P w = .ok (.bool (decide (x = y))) w := by
  have := run_eql_ints w ht hu hi hc [U x.a, U x.b, U x.c, U x.d, U x.e] [U y.a, U y.b, U y.c, U y.d, U y.e] rfl rfl
  refine Eq.trans this ?_
  congr 3
  apply propext
  constructor
  · intro h
    obtain ⟨a, b, c, d, e'⟩ := x
    obtain ⟨a', b', c', d', e''⟩ := y
    simp only [List.cons.injEq, and_true] at h
    rw [U_inj h.1, U_inj h.2.1, U_inj h.2.2.1, U_inj h.2.2.2.1, U_inj h.2.2.2.2]
  · rintro rfl; rfl
theorem equal_words {t e : TypeId} {i : TypeInfo} (ht : P.underlying t = some (.array 5 e)) (hu : P.underlying e = some (.int .u64)) (hi : P.info? e = some i) (hc : P.cellsOf e = 1)
    (x y : W5) : (Op.equalIn 10000 t (V5 x) (V5 y)).run P w = .ok (decide (x = y)) w := by
  have h := run_eql_words w ht hu hi hc x y
  rw [V5, V5, run_eql_struct] at h
  rw [V5, V5]
  generalize (Op.equalIn 10000 t _ _).run P w = r at *
  cases r <;> simp_all
theorem equal_hash {t e : TypeId} {i : TypeInfo} (ht : P.underlying t = some (.array 32 e)) (hu : P.underlying e = some (.int .u8)) (hi : P.info? e = some i) (hc : P.cellsOf e = 1)
    (l m : List UInt8) (hl : l.length = 32) (hm : m.length = 32) : (Op.equalIn 10000 t (.agg (HC l)) (.agg (HC m))).run P w = .ok (l == m) w := by
  have h := run_eql_hash w ht hu hi hc l m hl hm
  rw [run_eql_struct] at h
  generalize (Op.equalIn 10000 t _ _).run P w = r at *
  cases r <;> simp_all
end
end Go.Proofs.Ytcfdlffjghlghaa
