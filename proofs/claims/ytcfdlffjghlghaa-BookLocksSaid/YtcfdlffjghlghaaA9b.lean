/-
  Slices: appending, literals. No program is named here.
-/
import Derived.Test.YtcfdlffjghlghaaA9
import Derived.Great.BuildSlice
import Derived.Laws.OwnMore
namespace Go.Proofs.Ytcfdlffjghlghaa
set_option maxRecDepth 100000
open Go.RowKit
set_option linter.unusedVariables false
set_option linter.unusedSimpArgs false

section
variable {S : Nat → Prop} {w : World}
theorem RL.join {l m : List Seg} {cs ds : List Value} (h : RL S w l cs) (k : RL S w m ds) : RL S w (joinS l m) (cs ++ ds) := by
  unfold joinS
  split
  · rw [h.nil_inv]; exact k
  · split
    · next e =>
      subst e
      obtain ⟨h1, rfl⟩ := h.toInts
      obtain ⟨h2, rfl⟩ := k.toInts
      exact .ofInts (by simp [h1, h2]) (by simp)
    · exact h.append k
  · obtain ⟨h1, rfl⟩ := h.toBytes
    obtain ⟨h2, rfl⟩ := k.toBytes
    exact .ofBytes (by simp [h1, h2]) (by simp [HL])
  · obtain ⟨h1, rfl⟩ := h.toBools
    obtain ⟨h2, rfl⟩ := k.toBools
    exact .ofBools (by simp [h1, h2]) (by simp)
  · obtain ⟨h1, g⟩ := h.toGen
    obtain ⟨h2, g2⟩ := k.toGen
    exact .ofGen (by simp [h1, h2]) (g.append g2)
  · exact h.append k
theorem RL.many {l : List Seg} {cs : List Value} (h : RL S w l cs) (m : Nat) : RL S w (manyS m l) (List.replicate m cs).flatten := by
  unfold manyS
  split
  · obtain ⟨h1, rfl⟩ := h.toInts
    refine .ofInts (by simp [h1]) ?_
    simp [List.map_flatten]
  · obtain ⟨h1, rfl⟩ := h.toBytes
    refine .ofBytes (by simp [h1]) ?_
    simp [HL, List.map_flatten]
  · obtain ⟨h1, rfl⟩ := h.toBools
    refine .ofBools (by simp [h1]) ?_
    simp [List.map_flatten]
  · obtain ⟨h1, g⟩ := h.toGen
    refine .ofGen (by simp [h1]) ?_
    induction m with
    | zero => exact .nil
    | succ m ih => simpa [List.replicate_succ] using g.append ih
  · rename_i l' _ _ _ _
    induction m with
    | zero => exact .nil
    | succ m ih => simpa [List.replicate_succ] using h.append ih
end
theorem many_cells (zs : Array Value) (hz : zs.size ≠ 0) (m : Nat) : (((Array.range (m * zs.size)).map (zs[· % zs.size]!)).toList) = (List.replicate m zs.toList).flatten := by
  have key : ∀ m, (List.range (m * zs.size)).map (fun i => zs[i % zs.size]!) = (List.replicate m zs.toList).flatten := by
    intro m
    induction m with
    | zero => simp
    | succ m ih =>
      rw [List.replicate_succ', List.flatten_append, ← ih, Nat.add_mul, Nat.one_mul, List.range_add, List.map_append]
      congr 1
      simp only [List.flatten_cons, List.flatten_nil, List.append_nil, List.map_map]
      refine List.ext_getElem (by simp) fun i h1 h2 => ?_
      simp at h1
      simp [Nat.add_comm (m * zs.size), Nat.add_mul_mod_self_right, Nat.mod_eq_of_lt h1, getElem!_pos zs i h1]
  rw [Array.toList_map, ← key]
  simp

section
variable {E : EnvX} {o : Oper} {s : St} {fr : Nat}

/-- a new slice of one's own -/
theorem Good.newSl {G : Nat → Option (List Seg)} {S : Nat → Prop} {base : Nat} {w0 : W0 G} {s : St} {ρ : Nat → Option Value} {a : Act} {w w' : World} (g : Good S base w0 s ρ a w) {fr : Nat} (hfr : s.bk fr = none) (hlt : fr < s.h.length) (hw : w.grownBy w' none)
    {e : TypeId} {sz n : Nat} {l : List Seg} {cs : List Value} {v : Value} (hown : w'.ownsRow w.heap.size e sz v n cs)
    (hl : RL (Dt S base (upd ρ fr (some v))) w' l cs) (d : Option Nat) : Good S base w0 (s.app d (.own fr n) (some (fr, .sl e sz n l))) (upd ρ fr (some v)) (a.put d v) w' := by
  have hform : ∃ ad c, v = .slice ad n c := by
    rcases hown.2 with ⟨e1, e2⟩ | ⟨q, cap, cur, e1, _⟩
    · exact ⟨_, _, by rw [e1, e2]⟩
    · exact ⟨_, _, e1⟩
  have hreal : ∀ q, Rl v q → w.heap.size ≤ q ∧ q < w'.heap.size := by
    intro q hq
    rcases hown.2 with ⟨e1, e2⟩ | ⟨q', cap, cur, e1, e3, e4, _⟩
    · rw [e1] at hq; cases hq
    · rw [e1] at hq; cases hq
      exact ⟨e3, (Array.getElem?_eq_some_iff.1 e4).1⟩
  have g2 := g.change fr hlt v (.sl e sz n l) none hw (by simp) (fun q hq => ⟨.inl (hreal q hq).1, (hreal q hq).2⟩) (by
      intro K0
      refine ⟨v, cs, by simp [upd], ⟨hown.1, ?_⟩, hl⟩
      rcases hown.2 with h | ⟨q', cap, cur, e1, e3, e4⟩
      · exact .inl h
      · exact .inr ⟨q', cap, cur, e1, Nat.le_trans g.size e3, e4⟩) (by
      intro _ i hi hm
      exact absurd hfr (g.dang i fr hm)) (fun q hq => by have h0 := g.b fr; rw [hfr] at h0; have h0' : ρ fr = none := h0; rw [h0'] at hq; cases hq)
  refine g2.put' d (t := .own fr n) ?_ ?_
  · intro u hu
    simp [upd] at hu
    obtain ⟨ad, c', e1⟩ := hform
    exact ⟨ad, n, c', by rw [← hu, e1], Nat.le_refl _, fun _ => hu⟩
  · intro b hb
    simp [T.refs] at hb
    subst hb
    simp [St.bk, getD_set_list, hlt]
/-- data stay data beside a new block -/
theorem Dt.new {S : Nat → Prop} {base : Nat} {ρ : Nat → Option Value} {w w' : World} {v : Value} {fr : Nat} (hw : w.grownBy w' none) (hv : ∀ q, Rl v q → w.heap.size ≤ q) (hfr : ρ fr = none) : Keeps (Dt S base ρ) w (Dt S base (upd ρ fr (some v))) w' := by
  refine ⟨hw.size, fun r hr hd => ⟨⟨hd.1, fun b u hb hu => ?_⟩, fun o => World.cell?_of_block (hw.block r hr (by simp))⟩⟩
  by_cases e : b = fr
  · subst e
    simp [upd] at hb; subst hb
    have := hv r hu; omega
  · simp [upd, e] at hb
    exact hd.2 b u hb hu

theorem fill_size {off : Nat → Option (Nat × Nat)} : ∀ {l : List (Nat × Value)} {cs cs' : Array Value}, Instr.fill off cs l = some cs' → cs'.size = cs.size
  | [], cs, cs', h => by simp [Instr.fill] at h; rw [h]
  | (i, v) :: r, cs, cs', h => by
    unfold Instr.fill at h
    split at h
    · cases h
    · next q n hq =>
      split at h
      · cases h
      · have := fill_size h
        rw [this]
        have key : ∀ (l : List (Value × Nat)) (cs : Array Value), (l.foldl (fun cs (x : Value × Nat) => cs.setIfInBounds (q + x.2) x.1) cs).size = cs.size := by
          intro l
          induction l with
          | nil => intro cs; rfl
          | cons x l ih => intro cs; rw [List.foldl_cons, ih]; simp
        rw [← Array.foldl_toList]
        exact key _ _
theorem ok_buildSlice {t : TypeId} {len : Nat} {parts : Array (Nat × Operand)} {i j : TI} {K : List Seg → Prop} (ho : o.op = .buildSlice t len parts) (hY : E.Y t = some i) (hs1 : i.sl = true) (he : i.esz ≠ 0) (hl : len ≠ 0) (hm : len * i.esz ≤ 16777216) (hj : E.Y i.elem = some j) (hjs : segN j.zero = i.esz)
    (h : fillA (fun f => some (f * i.esz, i.esz)) s parts.toList (manyS len j.zero) K) : ∃ l, K l ∧ OpOK E o s fr (.own fr len) (some (fr, .sl i.elem i.esz len l)) := by
  obtain ⟨l, hK, hf⟩ := fillA_spec h
  refine ⟨l, hK, fun b hb => .inl ⟨by simpa [T.refs] using hb, _, rfl⟩, fun b x e => by cases e; exact .inl rfl, fun S base w0 s' ρ a w K' Q hs g hfr hlt hK' => ?_⟩
  obtain ⟨f, z, h1, h2, _, h3, h4⟩ := (E.hY _ j hj).info
  obtain ⟨_, f', h5, h6⟩ := (E.hY t i hY).arr he
  rw [h1] at h5; cases h5
  have hu := (E.hY t i hY).sl hs1
  have hz := zeroB_spec (S := Dt S base ρ) (w := w) h4
  have hzl : z.cells.size = f.size := by have := hz.len; rw [hjs, ← h6] at this; simpa using this
  have hpos : f.size ≠ 0 := by rw [h6]; exact he
  have hzn : z.cells.size ≠ 0 := by rw [hzl]; exact hpos
  have hc := many_cells z.cells hzn len
  obtain ⟨cs', h7, h8⟩ := hf (D := Dt S base ρ) (w := w) (ρ := ρ) a.eval ((Array.range (len * f.size)).map (z.cells[· % z.cells.size]!)) (fun p hp => by
    have hm : p.2 ∈ o.op.operands := by rw [ho]; simp only [Op.operands, List.mem_toArray, List.mem_map]; exact ⟨p, hp, rfl⟩
    have := g.ev p.2; rwa [(hs _ hm).1] at this) (by rw [← hzl, hc]; exact hz.many len)
  have hsz : cs'.size = len * f.size := by
    rw [fill_size h7]; simp
  have hr := run_buildSlice (P := E.P) w t i.elem len (parts.map fun (i, x) => (i, a.eval x)) cs' f z hu h1 h3 (by rw [h6]; omega) (by rw [h6]; exact Nat.mul_ne_zero hl he) (by
    rw [Array.toList_map, h6]; rw [h6] at h7; exact h7)
  have hw : w.grownBy (w.alloc (.cells cs' i.elem)) none := ⟨rfl, rfl, rfl, by rw [size_alloc]; omega, fun k hk _ => Below.heap_alloc _ _ _ hk⟩
  have hρ : ρ fr = none := by have := g.b fr; rw [hfr] at this; exact this
  unfold Oper.wp execOp
  simp only [ho, Sem.run_bind, hr, Result.andThen_ok, Sem.run_pure]
  refine hK' _ _ _ (g.newSl hfr hlt hw (cs := cs'.toList) ⟨?_, .inr ⟨w.heap.size, len, cs', rfl, Nat.le_refl _, heap_alloc_new _ _, Nat.le_refl _, ?_, ?_, ?_⟩⟩ (h8.up (Dt.new hw (fun q hq => by simp [Rl] at hq; omega) hρ)) o.dst)
  · rw [Array.length_toList, hsz, h6]
  · have : len ≤ len * i.esz := Nat.le_mul_of_pos_right _ (Nat.pos_of_ne_zero he)
    unfold maxLen; omega
  · rw [hsz, h6]
  · rw [List.take_of_length_le (by rw [Array.length_toList, hsz, h6]; exact Nat.le_refl _)]

/-- a slice of nothing that is not nil -/
theorem ok_build0 {t : TypeId} {parts : Array (Nat × Operand)} {i j : TI} (ho : o.op = .buildSlice t 0 parts) (hY : E.Y t = some i) (hs1 : i.sl = true) (he : i.esz ≠ 0) (hj : E.Y i.elem = some j) (hp : parts.toList = []) :
    OpOK E o s fr (.own fr 0) (some (fr, .sl i.elem i.esz 0 (manyS 0 j.zero))) := by
  refine ⟨fun b hb => .inl ⟨by simpa [T.refs] using hb, _, rfl⟩, fun b x e => by cases e; exact .inl rfl, fun S base w0 s' ρ a w K' Q hs g hfr hlt hK' => ?_⟩
  obtain ⟨f, z, h1, h2, _, h3, h4⟩ := (E.hY _ j hj).info
  obtain ⟨_, f', h5, h6⟩ := (E.hY t i hY).arr he
  rw [h1] at h5; cases h5
  have hu := (E.hY t i hY).sl hs1
  have hz := zeroB_spec (S := Dt S base ρ) (w := w) h4
  have hpa : parts = #[] := by cases parts; simp_all
  subst hpa
  have hr : (Instr.buildSlice t 0 (#[].map fun (p : Nat × Operand) => (p.1, a.eval p.2))).run E.P w = .ok (.slice (some ⟨w.heap.size, 0, none⟩) 0 0) (w.alloc (.cells #[] i.elem)) := by
    simp [Instr.buildSlice, run_underlying hu, sizeOf, typeInfo, h1, Instr.fill, newRow]
    exact congrArg (fun c => w.alloc (.cells c i.elem)) (Array.eq_empty_of_size_eq_zero (by simp))
  have hw : w.grownBy (w.alloc (.cells #[] i.elem)) none := ⟨rfl, rfl, rfl, by rw [size_alloc]; omega, fun k hk _ => Below.heap_alloc _ _ _ hk⟩
  have hρ : ρ fr = none := by have := g.b fr; rw [hfr] at this; exact this
  have hm := hz.many 0
  rw [List.replicate_zero, List.flatten_nil] at hm
  unfold Oper.wp execOp
  simp only [ho, Sem.run_bind, hr, Result.andThen_ok, Sem.run_pure]
  refine hK' _ _ _ (g.newSl hfr hlt hw (cs := []) ⟨by simp, .inr ⟨w.heap.size, 0, #[], rfl, Nat.le_refl _, heap_alloc_new _ _, Nat.le_refl _, Nat.zero_le _, by simp, by simp⟩⟩ (hm.up (Dt.new hw (fun q hq => by simp [Rl] at hq; omega) hρ)) o.dst)
theorem srcK_spec {y : Operand} {K : Nat → List Seg → Prop} (h : srcK s (s.ev y) K) : ∃ m news, K m news ∧
    ∀ (S : Nat → Prop) (base : Nat) (w0 : W0 E.G) (s' : St) (ρ : Nat → Option Value) (a : Act) (w : World), s'.ev y = s.ev y → (∀ b ∈ (s.ev y).refs, s'.bk b = s.bk b) → Good S base w0 s' ρ a w →
      ∃ ad c cs, a.eval y = .slice ad m c ∧ RL (Dt S base ρ) w news cs ∧ ((ad = none ∧ c = 0 ∧ m = 0 ∧ cs = []) ∨ ∃ a', ad = some a' ∧ ∀ j u, cs[j]? = some u → w.cell? (a'.add j) = some u) := by
  unfold srcK at h
  split at h
  · next n l hy =>
    refine ⟨n, l, h, fun S base w0 s' ρ a w h1 h2 g => ?_⟩
    have hv := g.ev y
    rw [h1, hy] at hv
    generalize a.eval y = v at hv
    cases hv with
    | row k k1 k2 k3 k4 =>
      rename_i c cs ad
      refine ⟨ad, c, cs, rfl, k, ?_⟩
      rcases k4 with k4 | ⟨b, q, rfl, k5, k6, k7⟩
      · subst k4
        cases ad with
        | none => have := k3 rfl; exact .inl ⟨rfl, this, by omega, rfl⟩
        | some a' => exact .inr ⟨a', rfl, fun j u hj => by simp at hj⟩
      · refine .inr ⟨_, rfl, fun j u hj => ?_⟩
        obtain ⟨hlt, e⟩ := List.getElem?_eq_some_iff.1 hj
        rw [add_at, k7 j hlt, e]
  · next b n hy =>
    split at h
    · next e sz m l hk =>
      obtain ⟨rfl, h⟩ := h
      refine ⟨n, l, h, fun S base w0 s' ρ a w h1 h2 g => ?_⟩
      have hv := g.ev y
      rw [h1, hy] at hv
      obtain ⟨cs, k1, k2, k3⟩ := own_now g ((h2 b (by rw [hy]; simp [T.refs])).trans hk) hv
      rcases k2.2 with ⟨e1, e2⟩ | ⟨r, cap, cur, e1, e3, e4, e5, e6, e7, e8⟩
      · refine ⟨none, 0, cs, by rw [e1, e2], k3, .inl ⟨rfl, rfl, e2, ?_⟩⟩
        have := k2.1; rw [e2, Nat.zero_mul] at this; exact List.length_eq_zero_iff.1 this
      · refine ⟨_, cap, cs, e1, k3, .inr ⟨_, rfl, k2.cells (g := r) (by rw [e1]; rfl)⟩⟩
    · exact h.elim
  · next b q n hy =>
    split at h
    · next l hk =>
      split at h
      · next m hm =>
        obtain ⟨hle, h⟩ := h
        refine ⟨n, m, h, fun S base w0 s' ρ a w h1 h2 g => ?_⟩
        have hv := g.ev y
        rw [h1, hy] at hv
        obtain ⟨r, cs, ty, k1, k2, k3, k4⟩ := g.var ((h2 b (by rw [hy]; simp [T.refs])).trans hk)
        obtain ⟨r', c, e1, e2, e3, e4⟩ := hv _ k1
        cases e1
        refine ⟨_, c, _, e2, (k4.cut hm).1, .inr ⟨_, rfl, fun j u hj => ?_⟩⟩
        rw [add_at, cells_of k3]
        rw [List.getElem?_take] at hj
        split at hj
        · rw [List.getElem?_drop] at hj; exact hj
        · cases hj
      · exact h.elim
    · exact h.elim
  · next hy =>
    refine ⟨0, [], h, fun S base w0 s' ρ a w h1 h2 g => ?_⟩
    have hv := g.ev y
    rw [h1, hy] at hv
    exact ⟨none, 0, [], RA.plain hv, .nil, .inl ⟨rfl, rfl, rfl, rfl⟩⟩
  · exact h.elim

theorem run_append_own_same {P : Program} {w : World} (base : Nat) (t ty e : TypeId) (i : TypeInfo) (size : Nat) (ht : P.underlying t = some (.slice e)) (hi : P.info? e = some i) (hsize : i.size = size)
    (v : Value) (n : Nat) (xs : List Value) (hown : w.ownsRow base e size v n xs) (a : Addr) (c : Nat) : (Builtin.append_ #[t, t] ty #[v, .slice (some a) 0 c]).run P w = .ok v w := by
  subst hsize
  rcases hown.2 with ⟨rfl, rfl⟩ | ⟨g, cap, cur, rfl, hbg, hg, hnc, hcm, hcs, htake⟩
  · simp [Builtin.append_, run_underlying ht, sizeOf, typeInfo, hi, Builtin.lenOf, Builtin.firstCells, loadCells, loadCellsFrom]
  · have hr := run_append_room (P := P) w t ty e i ht hi g n cap cur hg a 0 c [] (by simp) (by simp) (by simp) (by omega) (by simp [hcs]; exact Nat.mul_le_mul_right _ hnc)
    rw [hr]
    have : (List.take (n * i.size) cur.toList ++ [] ++ List.drop (n * i.size + ([] : List Value).length) cur.toList).toArray = cur := by simp
    rw [this, setRow_self w g cur e (0, 0) hg]
    simp

theorem ok_append {c : Call} {x y : Operand} {t : TypeId} {i j : TI} {b n : Nat} {l : List Seg} (ho : o.op = .call c) (hc : c.callee = .builtin .append) (ha : c.args.toList = [x, y]) (ht : c.argTypes.toList = [t, t]) (hY : E.Y t = some i) (hs1 : i.sl = true) (he : i.esz ≠ 0)
    (hj : E.Y i.elem = some j) (hjb : j.bytes ≠ 0) (hjs : segN j.zero = i.esz) {m : Nat} {news : List Seg}
    (hsrc : ∀ (S : Nat → Prop) (base : Nat) (w0 : W0 E.G) (s' : St) (ρ : Nat → Option Value) (a : Act) (w : World), s'.ev y = s.ev y → (∀ b ∈ (s.ev y).refs, s'.bk b = s.bk b) → Good S base w0 s' ρ a w →
      ∃ ad c cs, a.eval y = .slice ad m c ∧ RL (Dt S base ρ) w news cs ∧ ((ad = none ∧ c = 0 ∧ m = 0 ∧ cs = []) ∨ ∃ a', ad = some a' ∧ ∀ j u, cs[j]? = some u → w.cell? (a'.add j) = some u))
    (hseg : segN news = m * i.esz) (hx : s.ev x = .own b n) (hk : s.bk b = some (.sl i.elem i.esz n l)) (hb : (n + m) * j.bytes ≤ 140737488355328) :
    OpOK E o s fr (.own b (n + m)) (some (b, .sl i.elem i.esz (n + m) (joinS l news))) := by
  have hca : c.args = #[x, y] := by cases hq : c.args; simp_all
  have hct : c.argTypes = #[t, t] := by cases hq : c.argTypes; simp_all
  have hmx : x ∈ o.op.operands := by rw [ho]; simp [Op.operands, Call.operands, hc, hca]
  have hmy : y ∈ o.op.operands := by rw [ho]; simp [Op.operands, Call.operands, hc, hca]
  have hlk : looks o = true := by simp [looks, ho]
  refine ⟨fun q hq => .inr ⟨x, hmx, by rw [hx]; simpa [T.refs] using hq⟩, fun q z e => by cases e; exact .inr ⟨x, hmx, by rw [hx]; simp [T.refs]⟩, fun S base w0 s' ρ a w K' Q hs g hfr hlt hK' => ?_⟩
  obtain ⟨ad, c', ns, h1, h2, h3⟩ := hsrc S base w0 s' ρ a w (hs y hmy).1 (fun q hq => hs.bk hmy hlk hq) g
  have hbk : s'.bk b = some (.sl i.elem i.esz n l) := (hs.bk hmx hlk (by rw [hx]; simp [T.refs])).trans hk
  obtain ⟨cs, k1, k2, k3⟩ := own_now g hbk (evData hs g hmx hx)
  obtain ⟨_, f, h5, h6⟩ := (E.hY t i hY).arr he
  obtain ⟨f', z, h7, h8, h9, h10, h11⟩ := (E.hY _ j hj).info
  rw [h5] at h7; cases h7
  have hu := (E.hY t i hY).sl hs1
  have hns : ns.length = m * i.esz := by rw [h2.len, hseg]
  have hform : ∃ ad c, a.eval x = .slice ad n c := by
    rcases k2.2 with ⟨e1, e2⟩ | ⟨q, cap, cur, e1, _⟩
    · exact ⟨_, _, by rw [e1, e2]⟩
    · exact ⟨_, _, e1⟩
  have hbl := bk_lt hbk
  have hrun : ∀ {v' w'}, (Builtin.append_ #[t, t] o.type #[a.eval x, a.eval y]).run E.P w = .ok v' w' → (∀ ρ' , Good S base w0 (s'.app o.dst (.own b (n + m)) (some (b, .sl i.elem i.esz (n + m) (joinS l news)))) ρ' (a.put o.dst v') w' → o.wp E.P a w K' Q) := by
    intro v' w' hr ρ' hg
    unfold Oper.wp execOp
    simp only [ho, hc, hca, hct, resolve, invoke, builtin, Sem.run_bind, Sem.run_pure, Result.andThen_ok, List.map_toArray, List.map_cons, List.map_nil, hr]
    exact hK' _ _ _ hg
  -- nothing is appended
  have same : m = 0 → ns = [] → (Builtin.append_ #[t, t] o.type #[a.eval x, a.eval y]).run E.P w = .ok (a.eval x) w → o.wp E.P a w K' Q := by
    intro hm hn hr
    subst hm; subst hn
    have hupd : upd ρ b (some (a.eval x)) = ρ := by
      funext q; unfold upd; split
      · next e => rw [e, k1]
      · rfl
    have g2 := g.change b hbl (a.eval x) (.sl i.elem i.esz (n + 0) (joinS l news)) none ⟨rfl, rfl, rfl, Nat.le_refl _, fun _ _ _ => rfl⟩ (by simp) (fun r hr => ⟨.inr ⟨_, k1, hr⟩, (g.low b _ r k1 hr).2⟩) (by
      rw [hupd]
      intro K0
      refine ⟨a.eval x, cs ++ [], k1, ?_, k3.join h2⟩
      rw [List.append_nil]; exact k2) (by
      rw [hupd]
      intro _ q hq _
      exact g.t q hq) (fun q hq => by rw [k1] at hq; exact Option.some.inj hq)
    rw [hupd] at g2
    refine hrun hr ρ (g2.put' o.dst (t := .own b (n + 0)) ?_ ?_)
    · intro u hu
      rw [k1] at hu; cases hu
      obtain ⟨ad, c', e⟩ := hform
      exact ⟨ad, n, c', e, Nat.le_refl _, fun _ => rfl⟩
    · intro q hq
      simp [T.refs] at hq; subst hq
      simp [St.bk, getD_set_list, hbl]
  rcases h3 with ⟨rfl, rfl, hm, hn⟩ | ⟨a', rfl, h12⟩
  · refine same hm hn ?_
    rw [h1, hm]
    exact run_append_owned_none (P := E.P) (w := w) base t o.type i.elem f i.esz hu h5 _ n cs k2
  · by_cases hm : m = 0
    · refine same hm (by rw [hm, Nat.zero_mul] at hns; exact List.length_eq_zero_iff.1 hns) ?_
      rw [h1, hm]
      exact run_append_own_same base t o.type i.elem f i.esz hu h5 h6 _ n cs k2 a' c'
    · have hz := (zeroB_spec (S := S) (w := w) h11).len
      have h63 : n + m ≤ maxLen := by
        have : n + m ≤ (n + m) * j.bytes := Nat.le_mul_of_pos_right _ (Nat.pos_of_ne_zero hjb)
        unfold maxLen; omega
      obtain ⟨v', w', hr, k4, k5, k6, k7⟩ := run_append_own_at (P := E.P) w base t o.type i.elem f z i.esz j.bytes hu h5 h10 h6 h9 (by
          rw [hjs] at hz; simpa using hz) (Nat.pos_of_ne_zero he) _ n cs k2 a' m c' ns hns h12 h2.one h63 hb g.size
      have hform' : ∃ ad c, v' = .slice ad (n + m) c := by
        rcases k4.2 with ⟨e1, e2⟩ | ⟨q, cap, cur, e1, _⟩
        · exact ⟨_, _, by rw [e1, e2]⟩
        · exact ⟨_, _, e1⟩
      obtain ⟨ad1, c1, f1⟩ := hform
      obtain ⟨ad2, c2, f2⟩ := hform'
      have g2 := g.change b hbl v' (.sl i.elem i.esz (n + m) (joinS l news)) (a.eval x).ownBlock k5 (fun r hr => ⟨_, k1, (rl_own ⟨_, _, _, f1⟩).2 hr⟩) (fun r hr => by
          rw [rl_own ⟨_, _, _, f2⟩] at hr
          refine ⟨?_, ?_⟩
          · rcases k7 with k7 | k7
            · exact .inr ⟨_, k1, (rl_own ⟨_, _, _, f1⟩).2 (by rw [← k7]; exact hr)⟩
            · rw [k7] at hr; cases hr; exact .inl (Nat.le_refl _)
          · exact (k4.lt r hr).2) (by
          intro K0
          exact ⟨v', cs ++ ns, by simp [upd], k4, (k3.up K0).join (h2.up K0)⟩) (by
          intro K0 q hq hrf
          have hold := g.t q hq
          have nop : ∀ r : Nat, ∀ o', a.eval x = .pointer (some ⟨r, o', none⟩) → False := fun r o' e => by rw [f1] at e; cases e
          cases hT : s'.sl q with
          | d _ => rw [hT] at hrf; simp [T.refs] at hrf
          | tup _ => rw [hT] at hrf; simp [T.refs] at hrf
          | dead => rw [hT] at hrf; simp [T.refs] at hrf
          | ob b' => rw [hT] at hrf hold; simp [T.refs] at hrf; subst hrf; obtain ⟨r, F, e, _⟩ := hold _ k1; rw [f1] at e; exact (fpv_no.2 _ _ _ e.symm).elim
          | ptr b' o' => rw [hT] at hrf hold; simp [T.refs] at hrf; subst hrf; obtain ⟨r, e, _⟩ := hold _ k1; exact (nop _ _ e).elim
          | pti b' o' r' => rw [hT] at hrf hold; simp [T.refs] at hrf; subst hrf; obtain ⟨r, e, _⟩ := hold _ k1; exact (nop _ _ e).elim
          | win b' o' r' => rw [hT] at hrf hold; simp [T.refs] at hrf; subst hrf; obtain ⟨r, _, e, _⟩ := hold _ k1; exact (nop _ _ e).elim
          | own b' n' =>
            rw [hT] at hrf hold; simp [T.refs] at hrf; subst hrf
            obtain ⟨_, n2, _, e, e2, _⟩ := hold _ k1
            rw [f1] at e; cases e
            intro u hu
            simp [upd] at hu; subst hu
            exact ⟨ad2, n + m, c2, f2, by omega, fun e => by omega⟩
          | ept b' n' off =>
            rw [hT] at hrf hold; simp [T.refs] at hrf; subst hrf
            obtain ⟨_, n2, _, e, e2, _⟩ := hold _ k1
            rw [f1] at e; cases e
            intro u hu
            simp [upd] at hu; subst hu
            exact ⟨ad2, n + m, c2, f2, by omega, fun e => by omega⟩
          | pre b' n0 n' =>
            rw [hT] at hrf hold; simp [T.refs] at hrf; subst hrf
            obtain ⟨_, n2, _, e, e2, _⟩ := hold _ k1
            rw [f1] at e; cases e
            intro u hu
            simp [upd] at hu; subst hu
            exact ⟨ad2, n + m, c2, f2, by omega, fun e => by omega⟩
          | rows ps =>
            rw [hT] at hold
            obtain ⟨vs, hp, hr⟩ := hold
            refine ⟨vs, hp.map fun p hp v hv => ?_, hr.up K0⟩
            by_cases hbp : b ∈ p.refs
            · cases p with
              | dat a' => simp [Pt.refs] at hbp
              | win b' o' n' => simp [Pt.refs] at hbp; subst hbp; obtain ⟨r, _, e, _⟩ := hv _ k1; exact (nop _ _ e).elim
              | own b' n' =>
                simp [Pt.refs] at hbp; subst hbp
                obtain ⟨_, n2, _, e, e2, _⟩ := hv _ k1
                rw [f1] at e; cases e
                intro u hu
                simp [upd] at hu; subst hu
                exact ⟨ad2, n + m, c2, f2, by omega, fun e => by omega⟩
            · exact hv.up K0 fun q hq => by
                have : q ≠ b := fun e => hbp (e ▸ hq)
                simp [upd, this]) (fun q hq => by rw [k1, f1] at hq; cases hq)
      refine hrun (by rw [h1]; exact hr) _ (g2.put' o.dst (t := .own b (n + m)) ?_ ?_)
      · intro u hu
        simp [upd] at hu; subst hu
        exact ⟨ad2, n + m, c2, f2, Nat.le_refl _, fun _ => rfl⟩
      · intro q hq
        simp [T.refs] at hq; subst hq
        simp [St.bk, getD_set_list, hbl]

theorem ok_appendNew {c : Call} {x y : Operand} {t : TypeId} {i j : TI} (ho : o.op = .call c) (hc : c.callee = .builtin .append) (ha : c.args.toList = [x, y]) (ht : c.argTypes.toList = [t, t]) (hY : E.Y t = some i) (hs1 : i.sl = true) (he : i.esz ≠ 0)
    (hj : E.Y i.elem = some j) (hjb : j.bytes ≠ 0) (hjs : segN j.zero = i.esz) {m : Nat} {news : List Seg}
    (hsrc : ∀ (S : Nat → Prop) (base : Nat) (w0 : W0 E.G) (s' : St) (ρ : Nat → Option Value) (a : Act) (w : World), s'.ev y = s.ev y → (∀ b ∈ (s.ev y).refs, s'.bk b = s.bk b) → Good S base w0 s' ρ a w →
      ∃ ad c cs, a.eval y = .slice ad m c ∧ RL (Dt S base ρ) w news cs ∧ ((ad = none ∧ c = 0 ∧ m = 0 ∧ cs = []) ∨ ∃ a', ad = some a' ∧ ∀ j u, cs[j]? = some u → w.cell? (a'.add j) = some u))
    (hseg : segN news = m * i.esz) (hx : s.ev x = .d (.v (.slice none 0 0))) (hb : m * j.bytes ≤ 140737488355328) :
    OpOK E o s fr (.own fr m) (some (fr, .sl i.elem i.esz m news)) := by
  have hca : c.args = #[x, y] := by cases hq : c.args; simp_all
  have hct : c.argTypes = #[t, t] := by cases hq : c.argTypes; simp_all
  have hmx : x ∈ o.op.operands := by rw [ho]; simp [Op.operands, Call.operands, hc, hca]
  have hmy : y ∈ o.op.operands := by rw [ho]; simp [Op.operands, Call.operands, hc, hca]
  have hlk : looks o = true := by simp [looks, ho]
  refine ⟨fun b hb => .inl ⟨by simpa [T.refs] using hb, _, rfl⟩, fun b x e => by cases e; exact .inl rfl, fun S base w0 s' ρ a w K' Q hs g hfr hlt hK' => ?_⟩
  obtain ⟨ad, c', ns, h1, h2, h3⟩ := hsrc S base w0 s' ρ a w (hs y hmy).1 (fun q hq => hs.bk hmy hlk hq) g
  obtain ⟨_, f, h5, h6⟩ := (E.hY t i hY).arr he
  obtain ⟨f', z, h7, h8, h9, h10, h11⟩ := (E.hY _ j hj).info
  rw [h5] at h7; cases h7
  have hu := (E.hY t i hY).sl hs1
  have hns : ns.length = m * i.esz := by rw [h2.len, hseg]
  have hxv := evPlain hs g hmx hx
  have hρ : ρ fr = none := by have := g.b fr; rw [hfr] at this; exact this
  have hnil : w.ownsRow w.heap.size i.elem i.esz (.slice none 0 0) 0 [] := World.ownsRow_nil _ _ _ _
  have hrun : ∀ {v' w'}, (Builtin.append_ #[t, t] o.type #[a.eval x, a.eval y]).run E.P w = .ok v' w' → (∀ ρ' , Good S base w0 (s'.app o.dst (.own fr m) (some (fr, .sl i.elem i.esz m news))) ρ' (a.put o.dst v') w' → o.wp E.P a w K' Q) := by
    intro v' w' hr ρ' hg
    unfold Oper.wp execOp
    simp only [ho, hc, hca, hct, resolve, invoke, builtin, Sem.run_bind, Sem.run_pure, Result.andThen_ok, List.map_toArray, List.map_cons, List.map_nil, hr]
    exact hK' _ _ _ hg
  have none' : w.grownBy w none := ⟨rfl, rfl, rfl, Nat.le_refl _, fun _ _ _ => rfl⟩
  have same : m = 0 → ns = [] → (Builtin.append_ #[t, t] o.type #[a.eval x, a.eval y]).run E.P w = .ok (.slice none 0 0) w → o.wp E.P a w K' Q := by
    intro hm hn hr
    subst hm; subst hn
    exact hrun hr _ (g.newSl hfr hlt none' hnil (h2.up (Dt.new none' (fun q hq => by simp [Rl] at hq) hρ)) o.dst)
  rcases h3 with ⟨rfl, rfl, hm, hn⟩ | ⟨a', rfl, h12⟩
  · refine same hm hn ?_
    rw [h1, hm, hxv]
    exact run_append_owned_none (P := E.P) (w := w) w.heap.size t o.type i.elem f i.esz hu h5 _ 0 [] hnil
  · by_cases hm : m = 0
    · refine same hm (by rw [hm, Nat.zero_mul] at hns; exact List.length_eq_zero_iff.1 hns) ?_
      rw [h1, hm, hxv]
      exact run_append_own_same w.heap.size t o.type i.elem f i.esz hu h5 h6 _ 0 [] hnil a' c'
    · have hz := (zeroB_spec (S := S) (w := w) h11).len
      have h63 : 0 + m ≤ maxLen := by
        have : m ≤ m * j.bytes := Nat.le_mul_of_pos_right _ (Nat.pos_of_ne_zero hjb)
        unfold maxLen; omega
      obtain ⟨v', w', hr, k4, k5, k6, k7⟩ := run_append_own_at (P := E.P) w w.heap.size t o.type i.elem f z i.esz j.bytes hu h5 h10 h6 h9 (by
          rw [hjs] at hz; simpa using hz) (Nat.pos_of_ne_zero he) _ 0 [] hnil a' m c' ns hns h12 h2.one h63 (by rw [Nat.zero_add]; exact hb) (Nat.le_refl _)
      rw [Nat.zero_add, List.nil_append] at k4
      have hgr : w.grownBy w' none := k5
      refine hrun (by rw [h1, hxv]; exact hr) _ (g.newSl hfr hlt hgr k4 (h2.up (Dt.new hgr (fun q hq => ?_) hρ)) o.dst)
      rw [rl_own (by rcases k4.2 with ⟨e1, e2⟩ | ⟨q, cap, cur, e1, _⟩ <;> exact ⟨_, _, _, e1⟩)] at hq
      exact (k4.lt q hq).1
end
end Go.Proofs.Ytcfdlffjghlghaa
