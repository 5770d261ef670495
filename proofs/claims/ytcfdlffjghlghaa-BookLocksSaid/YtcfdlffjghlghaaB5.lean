/-
  Books: a new line, put together and laid behind the others.
-/
import Derived.Test.YtcfdlffjghlghaaB4
import Derived.Test.YtcfdlffjghlghaaMuts
namespace Go.Proofs.Ytcfdlffjghlghaa
set_option maxRecDepth 100000
open Go.RowKit
set_option linter.unusedVariables false
set_option linter.unusedSimpArgs false

/-- a line's cells -/
def lineC (e : Int) (p : List UInt8) : Array Value := (Value.int .i64 e :: HL p).toArray
theorem lineC_size (e : Int) (p : List UInt8) (hp : p.length = 32) : (lineC e p).size = 33 := by simp [lineC, HL_length, hp]
theorem rl_line {D : Nat → Prop} {w : World} {e : Int} {p : List UInt8} {cs : Array Value} (h : RL D w [.ints .i64 1 [e], .bytes 32 p] cs.toList) : cs = lineC e p := by
  obtain ⟨c, d, h1, h2, h3, _⟩ := h.head
  obtain ⟨_, rfl⟩ := h2.toInts
  obtain ⟨_, rfl⟩ := h3.toBytes
  apply Array.toList_inj.1
  rw [h1]; rfl
theorem rl_of_line {D : Nat → Prop} {w : World} (e : Int) {p : List UInt8} (hp : p.length = 32) : RL D w [.ints .i64 1 [e], .bytes 32 p] (lineC e p).toList :=
  RL.append (.ofInts (k := .i64) (n := 1) (zs := [e]) rfl rfl) (RL.ofBytes hp rfl)
theorem line_ty : ∃ i, env0.Y 65 = some i ∧ i.agg = true ∧ i.esz = 0 ∧ i.plc = [(0, 1), (1, 32)] ∧ i.zero = [.ints .i64 1 [0], .bytes 32 (List.replicate 32 0)] ∧ i.sz = 33 ∧ i.bytes = 40 := ⟨_, rfl, rfl, rfl, rfl, rfl, rfl, rfl⟩
theorem built_line (e : Int) {p : List UInt8} (hp : p.length = 32) : Try.prog.built 65 [(0, .int .i64 e), (1, .agg (HC p))] = some (lineC e p) := by
  obtain ⟨i, hY, ha, he, hpl, hz, _⟩ := line_ty
  obtain ⟨f, z, h1, h2, _, h3, h4⟩ := (env0.hY _ i hY).info
  obtain ⟨fs, k1, k2⟩ := (env0.hY _ i hY).plc ha he
  rw [hz] at h4
  obtain ⟨l', rfl, hf⟩ := fillA_spec (off := fun q => i.plc[q]?) (s := ⟨[.d (.v (.int .i64 e)), .d (.agg [.bytes 32 p])], []⟩) (parts := [(0, .tmp 0), (1, .tmp 1)]) (l := [.ints .i64 1 [0], .bytes 32 (List.replicate 32 0)]) (K := fun l => l = [.ints .i64 1 [e], .bytes 32 p]) (by rw [hpl]; exact ⟨by decide, rfl, rfl, by decide, rfl, rfl⟩)
  obtain ⟨cs', h5, h6⟩ := hf (D := fun _ => True) (w := default) (ρ := fun _ => none) (fun x => match x with | .tmp 0 => .int .i64 e | _ => .agg (HC p)) z.cells (fun q hq => by
    rcases List.mem_cons.1 hq with rfl | hq
    · exact .v _
    · rcases List.mem_cons.1 hq with rfl | hq
      · exact .agg (.ofBytes hp rfl)
      · cases hq) (zeroB_spec h4)
  rw [← rl_line h6]
  have h1' : Try.prog.info? 65 = some f := h1
  have k1' : Try.prog.underlying 65 = some (.struct fs) := k1
  have k2' : fs.toList.mapM (fun f => (Try.prog.info? f.type).map fun j => (f.offset, j.size)) = some i.plc := k2
  unfold Program.built
  simp only [h1', k1', h3, k2']
  have e9 : (fun x : Nat => i.plc.toArray[x]?) = fun q : Nat => i.plc[q]? := by funext q; simp
  rw [e9]
  exact h5
theorem slice_line (w : World) (e : Int) {p : List UInt8} (hp : p.length = 32) : (Instr.buildSlice 57 1 #[(0, .agg (lineC e p))]).run Try.prog w = .ok (.slice (some ⟨w.heap.size, 0, none⟩) 1 1) (w.alloc (.cells (lineC e p) 65)) := by
  obtain ⟨i, hY, ha, he, hpl, hz, hsz, _⟩ := line_ty
  obtain ⟨f, z, h1, h2, _, h3, h4⟩ := (env0.hY _ i hY).info
  have hfs : f.size = 33 := h2.trans hsz
  rw [hz] at h4
  have hzr := zeroB_spec (S := fun _ => True) (w := w) h4
  have hzl : z.cells.size = 33 := by have := hzr.len; simpa [segN, Seg.n] using this
  have hc := many_cells z.cells (by omega) 1
  obtain ⟨l', rfl, hf⟩ := fillA_spec (off := fun q => some (q * 33, 33)) (s := ⟨[.d (.agg [.ints .i64 1 [e], .bytes 32 p])], []⟩) (parts := [(0, .tmp 0)]) (l := [.ints .i64 1 [0], .bytes 32 (List.replicate 32 0)]) (K := fun l => l = [.ints .i64 1 [e], .bytes 32 p]) ⟨by decide, rfl, rfl⟩
  obtain ⟨cs', h5, h6⟩ := hf (D := fun _ => True) (w := w) (ρ := fun _ => none) (fun x => .agg (lineC e p)) ((Array.range (1 * f.size)).map (z.cells[· % z.cells.size]!)) (fun q hq => by
    rcases List.mem_cons.1 hq with rfl | hq
    · have := RA.agg (rl_of_line (D := fun _ => True) (w := w) e hp); exact this
    · cases hq) (by rw [hfs, ← hzl, hc]; simpa using hzr)
  rw [rl_line h6] at h5
  have hu : Try.prog.underlying 57 = some (.slice 65) := Try.underlying57
  exact run_buildSlice (P := Try.prog) w 57 65 1 #[(0, .agg (lineC e p))] (lineC e p) f z hu h1 h3 (by rw [hfs]; decide) (by rw [hfs]; decide) (by rw [← hfs] at h5; exact h5)
theorem append_line (w : World) {v : Value} {L : List Ln} {g : Nat} (e : Int) {p : List UInt8} (hp : p.length = 32) (ty : TypeId) (hL : L.length ≤ 1000) (ho : w.ownsRow 0 65 33 v L.length (lnC L)) (hg : Blk w g (lineC e p) 65) :
    ∃ v' w', (Builtin.append_ #[57, 57] ty #[v, .slice (some ⟨g, 0, none⟩) 1 1]).run Try.prog w = .ok v' w' ∧ w'.ownsRow 0 65 33 v' (L.length + 1) (lnC (L ++ [(e, p)])) ∧ w.grownBy w' v.ownBlock ∧ (v'.ownBlock = v.ownBlock ∨ v'.ownBlock = some w.heap.size) := by
  obtain ⟨i, hY, ha, he, hpl, hz, hsz, hby⟩ := line_ty
  obtain ⟨f, z, h1, h2, h2b, h3, h4⟩ := (env0.hY _ i hY).info
  have hfs : f.size = 33 := h2.trans hsz
  rw [hz] at h4
  have hzr := zeroB_spec (S := fun _ => True) (w := w) h4
  have hzl : z.cells.size = 33 := by have := hzr.len; simpa [segN, Seg.n] using this
  obtain ⟨v', w', k1, k2, k3, _, k5⟩ := run_append_own_at (P := Try.prog) w 0 57 ty 65 f z 33 40 Try.underlying57 h1 h3 hfs (h2b.trans hby) hzl (by decide) v L.length (lnC L) ho ⟨g, 0, none⟩ 1 1 (lineC e p).toList (by rw [Array.length_toList, lineC_size e p hp]) (fun j u hu => by
      rw [add_at, Nat.zero_add, hg.cell j, ← Array.getElem?_toList]; exact hu) (rl_of_line (D := fun _ => True) (w := w) e hp).one (by unfold maxLen; omega) (by omega) (Nat.zero_le _)
  refine ⟨v', w', k1, ?_, k3, k5⟩
  have : lnC (L ++ [(e, p)]) = lnC L ++ (lineC e p).toList := by simp [lnC, lineC]
  rw [this]; exact k2
end Go.Proofs.Ytcfdlffjghlghaa
