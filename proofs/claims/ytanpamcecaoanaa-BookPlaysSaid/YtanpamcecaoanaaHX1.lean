/-
  A struct that is handed in: each field for itself. No program is named here.
-/
import Derived.Test.YtanpamcecaoanaaHA3
import Derived.Deep.Slices
import Derived.Test.YtanpamcecaoanaaHB1
import Derived.Test.YtanpamcecaoanaaHB2
namespace Go.Proofs.Ytanpamcecaoanaa
set_option maxRecDepth 100000
open Go.RowKit Go.ChangeShapes
set_option linter.unusedVariables false
set_option linter.unusedSimpArgs false

theorem weights_each {H : Type} {P : Program} {B : Nat} : ∀ (ts : List TypeId) (ds : List (DataW H)), (∀ n ∈ DataW.weightsEach P ts ds, n ≤ B) → ∀ (i : Nat) (t : TypeId) (d : DataW H), ts[i]? = some t → ds[i]? = some d → ∀ n ∈ d.weights P t, n ≤ B
  | [], _, _, i, t, d, h, _ => by simp at h
  | _ :: _, [], _, i, t, d, _, h => by simp at h
  | u :: ts, c :: ds, hw, 0, t, d, h1, h2 => by
    simp only [List.getElem?_cons_zero, Option.some.injEq] at h1 h2
    subst h1; subst h2
    intro n hn
    exact hw n (by rw [DataW.weightsEach]; exact List.mem_append_left _ hn)
  | u :: ts, c :: ds, hw, i + 1, t, d, h1, h2 => by
    simp only [List.getElem?_cons_succ] at h1 h2
    exact weights_each ts ds (fun n hn => hw n (by rw [DataW.weightsEach]; exact List.mem_append_right _ hn)) i t d h1 h2
/-- a struct's field: its cells, its weight -/
theorem struct_field {H : Type} {enc : TypeId × Value → H} {P : Program} {w : World} {base : Nat} {spare : Nat → Bool} {held : Bool} {t : TypeId} {fs : Array Field} {fuel B : Nat} {cs : List Value} {x : DataW H × List MemPlace}
    (ht : P.underlying t = some (.struct fs)) (h : DataW.trod enc P w base spare held fuel t cs = some x) (hw : ∀ n ∈ x.1.weights P t, n ≤ B) {i : Nat} {f : Field} (hi : fs[i]? = some f) :
    ∃ n y, DataW.trod enc P w base spare held n f.type ((cs.drop f.offset).take (P.cellsOf f.type)) = some y ∧ ∀ m ∈ y.1.weights P f.type, m ≤ B := by
  obtain ⟨xs, n, _, rfl, _, hlen, hf⟩ := DataW.trod_struct ht h
  have hlt : i < fs.size := (Array.getElem?_eq_some_iff.1 hi).1
  have hx : i < xs.length := by omega
  refine ⟨n, xs[i], ?_, ?_⟩
  · have := hf i f hi
    simpa [List.getElem?_eq_getElem hx] using this
  · simp only [DataW.weights, ht] at hw
    refine weights_each _ _ hw i f.type _ ?_ ?_
    · rw [List.getElem?_map, Array.getElem?_toList, hi]; rfl
    · rw [List.getElem?_map, List.getElem?_eq_getElem hx]; rfl
end Go.Proofs.Ytanpamcecaoanaa

/-
  Slices of records, of structs of whole numbers that are handed in. No program is named here.
-/
namespace Go.Proofs.Ytanpamcecaoanaa
set_option maxRecDepth 100000
open Go.RowKit
set_option linter.unusedVariables false
set_option linter.unusedSimpArgs false

/-- cells that lie in a row -/
theorem lies_cells {w : World} {a : Addr} {cs : List Value} (h : ∀ j (hj : j < cs.length), w.cell? (a.add j) = some cs[j]) (hne : cs ≠ []) : a.spot = none ∧ Lies (fun _ => True) w (some ⟨a.block, a.off, none⟩) cs := by
  have hp : 0 < cs.length := List.length_pos_iff.2 hne
  have hz := h 0 hp
  have hsp : a.spot = none := by
    have h1 := hz
    unfold World.cell? at h1
    split at h1
    · next c t fr hb =>
      by_cases hs : (a.add 0).spot.isSome = true
      · rw [if_pos hs] at h1; cases h1
      · simpa [Addr.add] using hs
    · cases h1
  refine ⟨hsp, .inr ⟨a.block, a.off, rfl, trivial, ?_, fun i hi => ?_⟩⟩
  · have := block_lt_of_cell hz
    simpa [Addr.add] using this
  · have h1 := h i hi
    have e : a.add i = ⟨a.block, a.off + i, none⟩ := by cases a; simp_all [Addr.add]
    rw [e] at h1
    exact h1
/-- a slice of records: each is told by so much -/
theorem open_recs {α : Type} [Inhabited α] {H : Type} {enc : TypeId × Value → H} {P : Program} {w : World} {base b0 : Nat} {held : Bool} {r : Reach} {t e : TypeId} {v : Value} {d : DataW H} {ps : List MemPlace} {s : List (Option IntKind)} {B : Nat} (ht : P.underlying t = some (.slice e)) (hs : sigT P 20 e = some s) (hs0 : s ≠ []) (hB : P.bytesOf e = B) (hB1 : 1 ≤ B)
    (form : α → List Seg) (Ok : α → Prop) (hp : ∀ cs : List Value, cs.map cellKind = s.map some → (∀ u ∈ cs, wfV u) → ∃ x : α, Ok x ∧ RL (fun _ => True) w (form x) cs)
    (hval : Value.okWide P w r b0 t v) (h : DataW.Trod enc P w base (fun _ => true) held t v d ps) (hlt : ∀ n ∈ d.weights P t, n ≤ 140737488351232) :
    ∃ (n : Nat) (f : Nat → α), n ≤ 140737488351232 ∧ (∀ j, j < n → Ok (f j)) ∧ RA (fun _ => True) w (.recs n s.length fun j => form (f j)) v := by
  unfold Value.okWide at hval
  rw [ht] at hval
  obtain ⟨fuel, hf⟩ := h
  have hC : P.cellsOf e = s.length := by
    obtain ⟨_, _, _, hc, _⟩ := sigT_info hs
    exact hc
  rcases Deep.open_slice ht hf with ⟨hcs, _⟩ | ⟨a, len, cap, m, n, D, Pl, hcs, _, hl, hm, hmm, hx, hcell⟩
  · have : v = .slice none 0 0 := by cases v <;> simp_all [Value.cells, Cell.okWide, Cell.ok]
    subst this
    exact ⟨0, fun _ => default, by omega, fun j hj => by omega, .recs (cs := fun _ => []) (fun j hj => by omega) (Nat.le_refl _) (Nat.zero_le _) (fun _ => rfl) (.inl rfl)⟩
  · have hv : v = .slice (some a) len cap := by cases v <;> simp_all [Value.cells, Cell.okWide, Cell.ok]
    subst hv
    simp only [if_true] at hmm
    subst hmm
    simp only [Prod.mk.injEq] at hx
    rw [hx.1] at hlt
    have hwt := weight_of_slice ht hlt
    rw [hB] at hwt
    simp at hwt
    have hlen : len * B ≤ 140737488351232 := Nat.le_trans (Nat.mul_le_mul_right _ (by omega)) hwt
    have hlen2 : len ≤ 140737488351232 := Nat.le_trans (Nat.le_mul_of_pos_right _ (by omega)) hlen
    have each : ∀ j, j < len → ∃ (x : α) (cs : List Value), Ok x ∧ RL (fun _ => True) w (form x) cs ∧ cs.length = s.length ∧ ∀ i (hi : i < cs.length), w.cell? (a.add (j * s.length + i)) = some cs[i] := by
      intro j hj
      obtain ⟨cs', h1, h2⟩ := hcell j (by omega)
      rw [hC] at h1
      obtain ⟨_, h3, h4⟩ := World.cells?_some h1
      obtain ⟨h5, h6⟩ := kinds_of_trod 20 e _ hs h2 (by simpa using h3)
      obtain ⟨x, k1, k2⟩ := hp _ h5 h6
      have h3' : cs'.length = s.length := by simpa using h3
      refine ⟨x, cs', k1, k2, h3', fun i hi => ?_⟩
      have h8 := h4 i (by omega)
      rw [← Addr.add_add, h8]
      first | exact List.getElem?_eq_getElem hi | simp [hi]
    let g : Nat → α := fun j => if hj : j < len then (each j hj).choose else default
    let c : Nat → List Value := fun j => if hj : j < len then (each j hj).choose_spec.choose else []
    have hg : ∀ j (hj : j < len), Ok (g j) ∧ RL (fun _ => True) w (form (g j)) (c j) ∧ (c j).length = s.length ∧ ∀ i (hi : i < (c j).length), w.cell? (a.add (j * s.length + i)) = some (c j)[i] := by
      intro j hj
      have := (each j hj).choose_spec.choose_spec
      simp only [g, c, dif_pos hj]
      exact this
    refine ⟨len, g, hlen2, fun j hj => (hg j hj).1, ?_⟩
    by_cases h0 : len = 0
    · subst h0
      exact .recs (cs := c) (fun j hj => by omega) hl (by omega) (fun h => by cases h) (.inl rfl)
    · have hsp : a.spot = none := by
        obtain ⟨_, _, k3, k4⟩ := hg 0 (by omega)
        refine (lies_cells (w := w) (a := a) (cs := c 0) (fun i hi => ?_) (fun e => hs0 (List.length_eq_zero_iff.1 (by rw [← k3, e]; rfl)))).1
        have := k4 i hi
        rwa [Nat.zero_mul, Nat.zero_add] at this
      have ha : a = ⟨a.block, a.off, none⟩ := by cases a; simp_all
      rw [ha]
      refine .recs (cs := c) (fun j hj => (hg j hj).2.1) hl (by omega) (fun h => by cases h) (.inr ⟨a.block, a.off, rfl, fun j hj => ?_⟩)
      obtain ⟨_, _, k3, k4⟩ := hg j hj
      have := (lies_cells (w := w) (a := a.add (j * s.length)) (cs := c j) (fun i hi => by rw [Addr.add_add]; exact k4 i hi) (fun e => hs0 (List.length_eq_zero_iff.1 (by rw [← k3, e]; rfl)))).2
      have e2 : (a.add (j * s.length)).off = a.off + j * s.length := by rw [ha, add_at]
      have e3 : (a.add (j * s.length)).block = a.block := by rw [ha, add_at]
      rw [e2, e3] at this
      exact this
theorem rows_each {w : World} {a : Addr} {K : Nat} : ∀ (m : Nat), (∀ i < m, ∃ zs : List Int, zs.length = K ∧ ∀ j < K, w.cell? (a.add (i * K + j)) = some (.int .i64 (zs.getD j 0))) → ∃ zs : List Int, zs.length = m * K ∧ ∀ j < m * K, w.cell? (a.add j) = some (.int .i64 (zs.getD j 0))
  | 0, _ => ⟨[], by simp, fun j hj => by omega⟩
  | m + 1, h => by
    obtain ⟨zs, h1, h2⟩ := rows_each m fun i hi => h i (by omega)
    obtain ⟨ys, h3, h4⟩ := h m (by omega)
    refine ⟨zs ++ ys, by rw [List.length_append, h1, h3, Nat.succ_mul], fun j hj => ?_⟩
    rw [Nat.succ_mul] at hj
    by_cases e : j < m * K
    · rw [h2 j e, List.getD_eq_getElem?_getD, List.getD_eq_getElem?_getD, List.getElem?_append_left (by omega)]
    · have h5 := h4 (j - m * K) (by omega)
      rw [show m * K + (j - m * K) = j by omega] at h5
      rw [h5, List.getD_eq_getElem?_getD, List.getD_eq_getElem?_getD, List.getElem?_append_right (by omega), h1]
theorem lies_of {w : World} {a : Addr} {zs : List Int} (h : ∀ j < zs.length, w.cell? (a.add j) = some (.int .i64 (zs.getD j 0))) : Lies (fun _ => True) w (some a) (zs.map (Value.int .i64)) := by
  by_cases h0 : zs = []
  · left; subst h0; rfl
  · right
    have hp : 0 < zs.length := List.length_pos_iff.2 h0
    have hz := h 0 hp
    have hsp : a.spot = none := by
      have h1 := hz
      unfold World.cell? at h1
      split at h1
      · next c t fr hb =>
        by_cases hs : (a.add 0).spot.isSome = true
        · rw [if_pos hs] at h1; cases h1
        · simpa [Addr.add] using hs
      · cases h1
    refine ⟨a.block, a.off, by cases a; simp_all, trivial, ?_, fun i hi => ?_⟩
    · have := block_lt_of_cell hz
      simpa [Addr.add] using this
    · have hi' : i < zs.length := by simpa using hi
      have h1 := h i hi'
      have e : a.add i = ⟨a.block, a.off + i, none⟩ := by cases a; simp_all [Addr.add]
      rw [e] at h1
      rw [h1]
      simp [List.getD_eq_getElem?_getD, hi']
/-- a slice of structs of K whole numbers -/
theorem open_flats {H : Type} {enc : TypeId × Value → H} {P : Program} {w : World} {base b0 : Nat} {held : Bool} {r : Reach} {t e : TypeId} {v : Value} {d : DataW H} {ps : List MemPlace} {K : Nat} (ht : P.underlying t = some (.slice e)) (hs : sigT P 20 e = some (List.replicate K (some .i64))) (hK : 1 ≤ K) (hby : P.bytesOf e = 8 * K)
    (hval : Value.okWide P w r b0 t v) (h : DataW.Trod enc P w base (fun _ => true) held t v d ps) (hlt : ∀ n ∈ d.weights P t, n ≤ 140737488351232) :
    ∃ (n : Nat) (zs : List Int), n ≤ 140737488351232 ∧ RA (fun _ => True) w (.row n [.ints .i64 (n * K) zs]) v := by
  unfold Value.okWide at hval
  rw [ht] at hval
  obtain ⟨fuel, hf⟩ := h
  have hC : P.cellsOf e = K := by
    obtain ⟨_, _, _, hc, _⟩ := sigT_info hs
    rw [hc]; simp
  rcases Deep.open_slice ht hf with ⟨hcs, _⟩ | ⟨a, len, cap, m, n, D, Pl, hcs, _, hl, hm, hmm, hx, hcell⟩
  · have : v = .slice none 0 0 := by cases v <;> simp_all [Value.cells, Cell.okWide, Cell.ok]
    subst this
    refine ⟨0, [], by omega, .row (cs := []) ?_ (Nat.le_refl _) (Nat.zero_le _) (fun _ => rfl) (.inl rfl)⟩
    exact .ofInts (by simp) rfl
  · have hv : v = .slice (some a) len cap := by cases v <;> simp_all [Value.cells, Cell.okWide, Cell.ok]
    subst hv
    simp only [if_true] at hmm
    subst hmm
    simp only [Prod.mk.injEq] at hx
    rw [hx.1] at hlt
    have hwt := weight_of_slice ht hlt
    rw [hby] at hwt
    simp at hwt
    have hlen : len * (8 * K) ≤ 140737488351232 := Nat.le_trans (Nat.mul_le_mul_right _ (by omega)) hwt
    have hlen2 : len ≤ 140737488351232 := Nat.le_trans (Nat.le_mul_of_pos_right _ (by omega)) hlen
    obtain ⟨zs, hz1, hz2⟩ := rows_each (w := w) (a := a) (K := K) len fun i hi => by
      obtain ⟨cs', h1, h2⟩ := hcell i (by omega)
      rw [hC] at h1
      obtain ⟨_, h3, h4⟩ := World.cells?_some h1
      obtain ⟨h5, h6⟩ := kinds_of_trod 20 e _ hs h2 (by simpa using h3)
      obtain ⟨ys, rfl, h7, _⟩ := kinds_ints h5 h6
      refine ⟨ys, h7, fun j hj => ?_⟩
      have h8 := h4 j hj
      rw [← Addr.add_add, h8]
      simp [List.getD_eq_getElem?_getD, h7, hj]
    refine ⟨len, zs, hlen2, .row (cs := zs.map (Value.int .i64)) (.ofInts hz1 rfl) hl (by omega) (fun h => by cases h) (lies_of fun j hj => hz2 j (by omega))⟩
end Go.Proofs.Ytanpamcecaoanaa

/-
  Statements of the machine without memory: code of which a part is shown by hand; the length of a string. No program is named here.
-/
namespace Go.Proofs.Ytanpamcecaoanaa
set_option maxRecDepth 100000
open Go.RowKit
set_option linter.unusedVariables false
set_option linter.unusedSimpArgs false

/-- code that comes to this, shown in whatever way -/
structure GW (E : EnvX) (c : Code) (s : St) (k : Exit → St → Prop) : Prop where
  out : ∀ (S : Nat → Prop) (base : Nat) (w0 : W0 E.G) (ρ : Nat → Option Value) (a : Act) (w : World), Good S base w0 s ρ a w → c.wp E.P (fun e a' w' => ∃ s' ρ', k e s' ∧ Good S base w0 s' ρ' a' w') a w
structure GL (E : EnvX) (ops l : List Oper) (s : St) (k : St → Prop) : Prop where
  out : ∀ (S : Nat → Prop) (base : Nat) (w0 : W0 E.G) (ρ : Nat → Option Value) (a : Act) (w : World), Good S base w0 s ρ a w → wpList E.P ops.toArray (fun e a' w' => e = .normal ∧ ∃ s' ρ', k s' ∧ Good S base w0 s' ρ' a' w') l a w
section
variable {E : EnvX} {s : St}
theorem GW.of {c : Code} {k : Exit → St → Prop} (h : wpA E c s k) : GW E c s k := ⟨fun S base w0 ρ a w g => wpA_sound c h g⟩
theorem GW.seq {x y : Code} {k : Exit → St → Prop} (h : GW E x s fun e s' => match e with | .normal => GW E y s' k | e => k e s') : GW E (.seq x y) s k := by
  refine ⟨fun S base w0 ρ a w g => ?_⟩
  refine wp_seq (wp_mono (h.out S base w0 ρ a w g) ?_)
  rintro e a' w' ⟨s', ρ', h1, h2⟩
  cases e with
  | normal => exact GW.out h1 _ _ _ _ _ _ h2
  | _ => exact ⟨s', ρ', h1, h2⟩
theorem GL.of {ops l : List Oper} {k : St → Prop} (h : regA E ops l s k) : GL E ops l s k := ⟨fun S base w0 ρ a w g => regA_sound h g⟩
theorem GL.cons {ops r : List Oper} {o : Oper} {t : T} {k : St → Prop} (hg : o.guard = none) (ho : OpOK E o s s.h.length t none) (h : GL E ops r (s.app2 o.dst t none) k) : GL E ops (o :: r) s k := by
  refine ⟨fun S base w0 ρ a w g => ?_⟩
  have hs : StepOK E ops o s s.h.length t none := .inl ⟨by unfold Wants; rw [hg], ho⟩
  unfold wpList
  refine hs.run (s' := ⟨s.t, s.h ++ List.replicate 1 none⟩) (ρ := ρ) (a := a) (w := w) (fun x hx => ⟨by cases x <;> rfl, fun b _ => bk_more s 1 b⟩) (fun _ _ _ _ _ => rfl) (g.sim (Sim.more s 1)) ?_ (by simp) fun a' w' ρ' g' => ?_
  · rw [bk_more]
    unfold St.bk
    rw [List.getD_eq_getElem?_getD, List.getElem?_eq_none (Nat.le_refl _)]; rfl
  · exact h.out _ _ _ _ _ _ (g'.simBack app2_sim)
theorem GW.region {id : Nat} {ops : Array Oper} {k : Exit → St → Prop} (h : GL E ops.toList ops.toList s (k .normal)) : GW E (.region id ops false) s k := by
  refine ⟨fun S base w0 ρ a w g => ?_⟩
  have := h.out S base w0 ρ a w g
  rw [Array.toArray_toList] at this
  refine wp_mono (wp_region_list this) ?_
  rintro e a' w' ⟨rfl, s', ρ', h1, h2⟩
  exact ⟨s', ρ', h1, h2⟩
end
theorem fnGW {E : EnvX} {f : FuncId} {fn : Func} {c : Code} {args : List A} {res : Res} {n : Nat} {t : List T} (hf : E.P.funcs[f]? = some fn) (hnt : fn.ntmps = n)
    (left : GW E c ⟨t, []⟩ fun e s => (e = .normal ∨ e = .ret) ∧ resK' E s fn.results.toList fun r => r = res) (hb : fn.body = some c := by exact rfl) (hn : args.length ≤ n := by exact Nat.le_of_ble_eq_true rfl)
    (ht : args.map T.d ++ List.replicate (n - args.length) (.d (.v undef)) = t := by (conv => lhs; simp only [Seg.n, wn1, wn2, wn3, wn4, wn5, wn6, wn7, wn8, wn9, wn10, wn11, wn12, wn13, wn14, wn15, wn16, Int.reduceAdd, Int.zero_add, Seg.cell, Seg.sub, List.set_nil, isAlloc, trimH, List.take_append_drop, St.app, St.app2, St.ev, List.getD_cons_zero, List.getD_cons_succ, List.getD_nil, St.sl, St.bk, tiInt, tiBool, tiSl, tiArr, tiStruct, weaken, keepT, List.set_cons_zero, List.set_cons_succ, List.length_cons, List.length_nil, List.cons_append, List.nil_append, List.append_nil, List.map_cons, List.map_nil, List.replicate_succ, List.replicate_zero, List.take_succ_cons, List.take_zero, List.drop_succ_cons, List.drop_zero, List.take_nil, List.drop_nil, Nat.reduceAdd, Nat.reduceSub, Nat.reduceMul, Nat.reduceEqDiff, Nat.reduceLT, Nat.reduceLeDiff, Nat.zero_add, Nat.add_zero, Nat.sub_self, Nat.sub_zero, Nat.one_mul, Nat.mul_one, Nat.zero_mul, joinS, manyS, List.flatten_cons, List.flatten_nil, eq_self, ite_true, if_true, if_false, ↓reduceIte, reduceCtorEq, Int.reduceToNat]); all_goals exact rfl) : FnOK E.P E.G f args res := by
  subst hnt; subst ht
  intro S w vs hG hv
  refine calls_of_wp hf hb ?_
  have g := begin_good fn.ntmps hn hG hv
  refine wp_mono (left.out _ _ _ _ _ _ g) ?_
  rintro e a' w' ⟨s', ρ', ⟨he, hr⟩, hg⟩
  obtain ⟨r, v, rfl, h2, h3⟩ := resK_sound (fun z hz => hz.1) (fun _ _ _ h => h) (fun _ (h : False) => h.elim) hr hg
  rcases he with rfl | rfl
  · exact ⟨hg.defs, v, h2, v, rfl, h3, hg.bel.below fun _ h => h⟩
  · exact ⟨hg.defs, v, h2, v, rfl, h3, hg.bel.below fun _ h => h⟩
end Go.Proofs.Ytanpamcecaoanaa

/-
  Slices of acts that are handed in.
-/
namespace Go.Proofs.Ytanpamcecaoanaa
set_option maxRecDepth 100000
open Go.RowKit
set_option linter.unusedVariables false
set_option linter.unusedSimpArgs false
/-- an act: its kind, its epoch, its paper -/
abbrev Ac := Int × Int × List UInt8
def acF (a : Ac) : List Seg := [.ints .i64 2 [a.1, a.2.1], .bytes 32 a.2.2]
theorem wf_i64 {z : Int} (h : (Lit.int .i64 z).wf = true) : -9223372036854775808 ≤ z ∧ z ≤ 9223372036854775807 := by
  unfold Lit.wf at h
  rw [Bool.and_eq_true, decide_eq_true_eq, decide_eq_true_eq] at h
  have e1 : IntKind.i64.min = -9223372036854775808 := by decide
  have e2 : IntKind.i64.max = 9223372036854775807 := by decide
  rw [e1, e2] at h; exact h
theorem act_cells {w : World} (cs : List Value) (h : cs.map cellKind = (List.replicate 2 (some IntKind.i64) ++ List.replicate 32 (some IntKind.u8)).map some) (hw : ∀ u ∈ cs, wfV u) : ∃ a : Ac, (-9223372036854775808 ≤ a.2.1 ∧ a.2.1 ≤ 9223372036854775807) ∧ RL (fun _ => True) w (acF a) cs := by
  obtain ⟨c, d, rfl, k1, k2, k3, k4⟩ := kinds_split h hw
  obtain ⟨zs, rfl, l1, b1⟩ := kinds_ints k1 k3
  obtain ⟨bs, rfl, l2⟩ := kinds_bytes k2 k4
  match zs, l1, b1 with
  | [x, y], _, b1 =>
    exact ⟨(x, y, bs), wf_i64 (b1 y (by simp)), RL.append (.ofInts (k := .i64) (n := 2) (zs := [x, y]) rfl rfl) (.ofBytes l2 rfl)⟩
theorem open_acts {H : Type} {enc : TypeId × Value → H} {w : World} {base b0 : Nat} {held : Bool} {r : Reach} {v : Value} {d : DataW H} {ps : List MemPlace}
    (hval : Value.okWide Try.prog w r b0 22 v) (h : DataW.Trod enc Try.prog w base (fun _ => true) held 22 v d ps) (hlt : ∀ n ∈ d.weights Try.prog 22, n ≤ 140737488351232) :
    ∃ (n : Nat) (g : Nat → Ac), n ≤ 140737488351232 ∧ (∀ j, j < n → -9223372036854775808 ≤ (g j).2.1 ∧ (g j).2.1 ≤ 9223372036854775807) ∧ RA (fun _ => True) w (.recs n 34 fun j => acF (g j)) v :=
  open_recs (P := Try.prog) (e := 32) (s := List.replicate 2 (some IntKind.i64) ++ List.replicate 32 (some IntKind.u8)) (B := 48) Try.underlying22 (by kernel_rfl) (by simp) (by kernel_rfl) (by omega) acF (fun a => -9223372036854775808 ≤ a.2.1 ∧ a.2.1 ≤ 9223372036854775807) act_cells hval h hlt
end Go.Proofs.Ytanpamcecaoanaa

/-
  The document's book: what it is.
-/
namespace Go.Proofs.Ytanpamcecaoanaa
set_option maxRecDepth 100000
open Go.RowKit
set_option linter.unusedVariables false
set_option linter.unusedSimpArgs false

/-- the cells of the document's book -/
abbrev XC (v : Value) (s : Int) : Array Value := #[v, .int .i64 s]
def xSegs (L : List Ln) (s : Int) : List Seg := [.gen 1 [.recs L.length 33 (lineF L)], .ints .i64 1 [s]]
/-- the document's book, as the memory at its blocks tells it -/
def xbkP (L : List Ln) (s : Int) : (Nat → Option Obj) → Nat → Prop := fun h r => ∃ t v, h r = some (.cells (XC v s) t (0, 0)) ∧ (v = .slice none 0 0 ∧ L.length = 0 ∨ ∃ q cap cur, v = .slice (some ⟨q, 0, none⟩) L.length cap ∧ q ≠ r ∧ h q = some (.cells cur 60 (0, 0)) ∧ L.length ≤ cap ∧ cap ≤ maxLen ∧ cur.size = cap * 33 ∧ cur.toList.take (L.length * 33) = lnC L) ∧ ∀ x ∈ L, x.2.length = 32
theorem xrun_len {v : Value} {n : Nat} {w : World} {xs : List Value} (h : w.ownsRow 0 60 33 v n xs) : ∃ ad c, v = .slice ad n c := by
  rcases h.2 with ⟨e1, e2⟩ | ⟨q, cap, cur, e1, _⟩
  · exact ⟨_, _, by rw [e1, e2]⟩
  · exact ⟨_, _, e1⟩
/-- the same in a world -/
structure XW (w : World) (r : Nat) (t : TypeId) (v : Value) (L : List Ln) (s : Int) : Prop where
  blk : Blk w r (XC v s) t
  own : w.ownsRow 0 60 33 v L.length (lnC L)
  sep : v.ownBlock ≠ some r
  len : ∀ x ∈ L, x.2.length = 32
theorem XW.of {w : World} {r : Nat} {F : List Nat} {L : List Ln} {s : Int} (h : xbkP L s (hres w (r :: F)) r) : ∃ t v, XW w r t v L s ∧ ∀ q, v.ownBlock = some q → q ∈ F := by
  obtain ⟨t, v, h1, h2, h3⟩ := h
  have hr : w.heap[r]? = some (.cells (XC v s) t (0, 0)) := by unfold hres at h1; rw [if_pos (by simp)] at h1; exact h1
  rcases h2 with ⟨rfl, h4⟩ | ⟨q, cap, cur, rfl, h4, h5, h6⟩
  · have hL : L = [] := List.length_eq_zero_iff.1 h4
    subst hL
    exact ⟨t, _, ⟨hr, ⟨rfl, .inl ⟨rfl, rfl⟩⟩, by simp [Value.ownBlock], h3⟩, by simp [Value.ownBlock]⟩
  · have hq : q ∈ r :: F := by
      apply Decidable.byContradiction
      intro hn
      unfold hres at h5; rw [if_neg hn] at h5; cases h5
    have hq2 : w.heap[q]? = some (.cells cur 60 (0, 0)) := by unfold hres at h5; rw [if_pos hq] at h5; exact h5
    refine ⟨t, _, ⟨hr, ⟨lnC_length L h3, .inr ⟨q, cap, cur, rfl, Nat.zero_le _, hq2, h6⟩⟩, by simp [Value.ownBlock]; exact h4, h3⟩, fun q' e => ?_⟩
    simp [Value.ownBlock] at e; subst e
    rcases List.mem_cons.1 hq with h | h
    · exact (h4 h).elim
    · exact h
theorem XW.to {w : World} {r : Nat} {F : List Nat} {t : TypeId} {v : Value} {L : List Ln} {s : Int} (h : XW w r t v L s) (hF : ∀ q, v.ownBlock = some q → q ∈ F) : xbkP L s (hres w (r :: F)) r := by
  refine ⟨t, v, ?_, ?_, h.len⟩
  · unfold hres; rw [if_pos (by simp)]; exact h.blk
  · rcases h.own.2 with ⟨e1, e2⟩ | ⟨q, cap, cur, rfl, _, h5, h6⟩
    · exact .inl ⟨e1, e2⟩
    · have h7 := hF q rfl
      refine .inr ⟨q, cap, cur, rfl, fun e => h.sep (by rw [← e]; rfl), ?_, h6⟩
      unfold hres; rw [if_pos (by simp [h7])]; exact h5
/-- a book of which only its first block was written -/
theorem XW.next {w w' : World} {r : Nat} {t : TypeId} {v : Value} {L : List Ln} {s s' : Int} (h : XW w r t v L s) (hb : Blk w' r (XC v s') t) (hg : w.grownBy w' (some r)) : XW w' r t v L s' := by
  refine ⟨hb, ⟨h.own.1, ?_⟩, h.sep, h.len⟩
  rcases h.own.2 with h1 | ⟨q, cap, cur, e, h2, h3, h4⟩
  · exact .inl h1
  · refine .inr ⟨q, cap, cur, e, h2, ?_, h4⟩
    rw [hg.block q (Array.getElem?_eq_some_iff.1 h3).1 (fun e2 => h.sep (by rw [e]; cases e2; rfl))]
    exact h3
theorem xline_ty : ∃ i, env0.Y 60 = some i ∧ i.agg = true ∧ i.esz = 0 ∧ i.plc = [(0, 1), (1, 32)] ∧ i.zero = [.ints .i64 1 [0], .bytes 32 (List.replicate 32 0)] ∧ i.sz = 33 ∧ i.bytes = 40 := ⟨_, rfl, rfl, rfl, rfl, rfl, rfl, rfl⟩
theorem xbuilt_line (e : Int) {p : List UInt8} (hp : p.length = 32) : Try.prog.built 60 [(0, .int .i64 e), (1, .agg (HC p))] = some (lineC e p) := by
  obtain ⟨i, hY, ha, he, hpl, hz, _⟩ := xline_ty
  obtain ⟨f, z, h1, h2, _, h3, h4⟩ := (env0.hY _ i hY).info
  obtain ⟨fs, k1, k2⟩ := (env0.hY _ i hY).plc ha he
  rw [hz] at h4
  obtain ⟨l', rfl, hf⟩ := fillA_spec (off := fun q => i.plc[q]?) (s := ⟨[.d (.v (.int .i64 e)), .d (.agg [.bytes 32 p])], []⟩) (parts := [(0, .tmp 0), (1, .tmp 1)]) (l := [.ints .i64 1 [0], .bytes 32 (List.replicate 32 0)]) (K := fun l => l = [.ints .i64 1 [e], .bytes 32 p]) (by rw [hpl]; exact ⟨by decide, rfl, rfl, by decide, rfl, rfl⟩)
  obtain ⟨cs', h5, h6⟩ := hf (D := fun _ => True) (w := default) (ρ := fun _ => none) (fun x => match x with | .tmp 0 => .int .i64 e | _ => .agg (HC p)) z.cells (fun q hq => by
    rcases List.mem_cons.1 hq with rfl | hq
    · exact .v _
    · rcases List.mem_cons.1 hq with rfl | hq
      · exact .agg (.ofBytes hp rfl)
      · cases hq) (zeroB_spec h4)
  rw [← rl_line h6]
  have h1' : Try.prog.info? 60 = some f := h1
  have k1' : Try.prog.underlying 60 = some (.struct fs) := k1
  have k2' : fs.toList.mapM (fun f => (Try.prog.info? f.type).map fun j => (f.offset, j.size)) = some i.plc := k2
  unfold Program.built
  simp only [h1', k1', h3, k2']
  have e9 : (fun x : Nat => i.plc.toArray[x]?) = fun q : Nat => i.plc[q]? := by funext q; simp
  rw [e9]
  exact h5
theorem xslice_line (w : World) (e : Int) {p : List UInt8} (hp : p.length = 32) : (Instr.buildSlice 26 1 #[(0, .agg (lineC e p))]).run Try.prog w = .ok (.slice (some ⟨w.heap.size, 0, none⟩) 1 1) (w.alloc (.cells (lineC e p) 60)) := by
  obtain ⟨i, hY, ha, he, hpl, hz, hsz, _⟩ := xline_ty
  obtain ⟨f, z, h1, h2, _, h3, h4⟩ := (env0.hY _ i hY).info
  have hfs : f.size = 33 := h2.trans hsz
  rw [hz] at h4
  have hzr := zeroB_spec (S := fun _ => True) (w := w) h4
  have hzl : z.cells.size = 33 := by have := hzr.len; simpa [segN, Seg.n] using this
  have hc := many_cells z.cells (by omega) 1
  obtain ⟨l', rfl, hf⟩ := fillA_spec (off := fun q => some (q * 33, 33)) (s := ⟨[.d (.agg [.ints .i64 1 [e], .bytes 32 p])], []⟩) (parts := [(0, .tmp 0)]) (l := [.ints .i64 1 [0], .bytes 32 (List.replicate 32 0)]) (K := fun l => l = [.ints .i64 1 [e], .bytes 32 p]) ⟨by decide, rfl, rfl⟩
  obtain ⟨cs', h5, h6⟩ := hf (D := fun _ => True) (w := w) (ρ := fun _ => none) (fun x => .agg (lineC e p)) ((Array.range (1 * f.size)).map (z.cells[· % z.cells.size]!)) (fun q hq => by
    rcases List.mem_cons.1 hq with rfl | hq
    · have := RA.agg (rl_of_line (D := fun _ => True) (w := w) e hp); exact this
    · cases hq) (by rw [hfs, ← hzl, hc]; simpa using hzr)
  rw [rl_line h6] at h5
  have hu : Try.prog.underlying 26 = some (.slice 60) := Try.underlying26
  exact run_buildSlice (P := Try.prog) w 26 60 1 #[(0, .agg (lineC e p))] (lineC e p) f z hu h1 h3 (by rw [hfs]; decide) (by rw [hfs]; decide) (by rw [← hfs] at h5; exact h5)
theorem xappend_line (w : World) {v : Value} {L : List Ln} {g : Nat} (e : Int) {p : List UInt8} (hp : p.length = 32) (ty : TypeId) (hL : L.length ≤ 1000) (ho : w.ownsRow 0 60 33 v L.length (lnC L)) (hg : Blk w g (lineC e p) 60) :
    ∃ v' w', (Builtin.append_ #[26, 26] ty #[v, .slice (some ⟨g, 0, none⟩) 1 1]).run Try.prog w = .ok v' w' ∧ w'.ownsRow 0 60 33 v' (L.length + 1) (lnC (L ++ [(e, p)])) ∧ w.grownBy w' v.ownBlock ∧ (v'.ownBlock = v.ownBlock ∨ v'.ownBlock = some w.heap.size) := by
  obtain ⟨i, hY, ha, he, hpl, hz, hsz, hby⟩ := xline_ty
  obtain ⟨f, z, h1, h2, h2b, h3, h4⟩ := (env0.hY _ i hY).info
  have hfs : f.size = 33 := h2.trans hsz
  rw [hz] at h4
  have hzr := zeroB_spec (S := fun _ => True) (w := w) h4
  have hzl : z.cells.size = 33 := by have := hzr.len; simpa [segN, Seg.n] using this
  obtain ⟨v', w', k1, k2, k3, _, k5⟩ := run_append_own_at (P := Try.prog) w 0 26 ty 60 f z 33 40 Try.underlying26 h1 h3 hfs (h2b.trans hby) hzl (by decide) v L.length (lnC L) ho ⟨g, 0, none⟩ 1 1 (lineC e p).toList (by rw [Array.length_toList, lineC_size e p hp]) (fun j u hu => by
      rw [add_at, Nat.zero_add, hg.cell j, ← Array.getElem?_toList]; exact hu) (rl_of_line (D := fun _ => True) (w := w) e hp).one (by unfold maxLen; omega) (by omega) (Nat.zero_le _)
  refine ⟨v', w', k1, ?_, k3, k5⟩
  have : lnC (L ++ [(e, p)]) = lnC L ++ (lineC e p).toList := by simp [lnC, lineC]
  rw [this]; exact k2
theorem xbkRA {D : Nat → Prop} {w : World} {r : Nat} {t : TypeId} {v : Value} {s : Int} {L : List Ln} (hD : D r) (hD2 : ∀ q, v.ownBlock = some q → D q) (hb : Blk w r (XC v s) t) (ho : w.ownsRow 0 60 33 v L.length (lnC L)) (hl : ∀ x ∈ L, x.2.length = 32) :
    RA (D) w (.sref (xSegs L s) 0) (.pointer (some ⟨r, 0, none⟩)) := by
  have hv : RA (D) w (.recs L.length 33 (lineF L)) v := by
    rcases ho.2 with ⟨e1, e2⟩ | ⟨q, cap, cur, rfl, _, h5, h6, h7, h8, h9⟩
    · rw [e1, e2]
      exact .recs (cs := fun _ => []) (fun j hj => absurd hj (by omega)) (Nat.le_refl _) (Nat.zero_le _) (fun _ => rfl) (.inl rfl)
    · refine .recs (cs := fun j => .int .i64 (L.getD j (0, [])).1 :: HL (L.getD j (0, [])).2) (fun j hj => ?_) h6 h7 (fun e => by cases e) (.inr ⟨q, 0, rfl, fun j hj => .inr ⟨q, 0 + j * 33, rfl, hD2 q rfl, (Array.getElem?_eq_some_iff.1 h5).1, fun i hi => ?_⟩⟩)
      · have hm : L.getD j (0, []) ∈ L := by rw [List.getD_eq_getElem?_getD, List.getElem?_eq_getElem hj]; exact List.getElem_mem hj
        have := RL.append (.ofInts (k := .i64) (n := 1) (zs := [(L.getD j (0, [])).1]) rfl rfl) (RL.ofBytes (S := D) (w := w) (hl _ hm) rfl)
        exact this
      · have hm : L.getD j (0, []) ∈ L := by rw [List.getD_eq_getElem?_getD, List.getElem?_eq_getElem hj]; exact List.getElem_mem hj
        have hi2 : i < 33 := by rw [List.length_cons, HL_length, hl _ hm] at hi; exact hi
        have hn := lnC_length L hl
        rw [cell_of_row w q (0 + j * 33 + i) cur _ (0, 0) h5, Nat.zero_add]
        have : (cur.toList.take (L.length * 33))[j * 33 + i]? = (lnC L)[j * 33 + i]? := by rw [h9]
        rw [List.getElem?_take, if_pos (by omega), Array.getElem?_toList, lnC_at L hl j i hj hi2] at this
        rw [this, List.getElem?_eq_getElem hi]
  have hv1 : v.oneCell' = true := by obtain ⟨ad, c, rfl⟩ := xrun_len ho; rfl
  have hR : RL D w (xSegs L s) (XC v s).toList := by
    have h1 := RL.append (.ofGen (n := 1) rfl (.cons hv hv1 .nil)) (RL.ofInts (S := D) (w := w) (k := .i64) (n := 1) (zs := [s]) rfl rfl)
    exact h1
  refine .sref (off := 0) hR (.inr ⟨r, 0, rfl, hD, (Array.getElem?_eq_some_iff.1 hb).1, fun i hi => ?_⟩)
  rw [Nat.zero_add, cells_of hb i, List.getElem?_eq_getElem hi]
/-- the document's book as an object, that may be read as data -/
def xkQ (x : BS) (h : Nat → Option Obj) (r : Nat) : Prop := xbkP x.L x.s h r ∧ x.s ≤ x.L.length ∧ x.L.length ≤ 100
theorem xk_read (x : BS) {D : Nat → Prop} {w : World} {F : List Nat} {r : Nat} (h : r ∈ F ∧ xkQ x (hres w F) r) : RA (fun z => D z ∨ z ∈ F) w (.sref (xSegs x.L x.s) 0) (.pointer (some ⟨r, 0, none⟩)) := by
  obtain ⟨h0, ⟨t, v, h1, h2, h3⟩, _⟩ := h
  have hr : Blk w r (XC v x.s) t := by unfold hres at h1; rw [if_pos h0] at h1; exact h1
  rcases h2 with ⟨rfl, h4⟩ | ⟨q, cap, cur, rfl, h4, h5, h6⟩
  · have hL : x.L = [] := List.length_eq_zero_iff.1 h4
    exact xbkRA (.inr h0) (fun q e => by cases e) hr (by rw [hL]; exact ⟨rfl, .inl ⟨rfl, rfl⟩⟩) h3
  · have hq : q ∈ F := by
      apply Decidable.byContradiction
      intro hn
      unfold hres at h5; rw [if_neg hn] at h5; cases h5
    have hq2 : w.heap[q]? = some (.cells cur 60 (0, 0)) := by unfold hres at h5; rw [if_pos hq] at h5; exact h5
    exact xbkRA (.inr h0) (fun q' e => by cases e; exact .inr hq) hr ⟨lnC_length x.L h3, .inr ⟨q, cap, cur, rfl, Nat.zero_le _, hq2, h6⟩⟩ h3
def xkP (x : BS) : OP := { p := fun _ w F r => r ∈ F ∧ xkQ x (hres w F) r, up := fun _ e h => by rw [hres_eq e]; exact h, fl := true, hfl := by intro _ D D' w F r h; exact h, dv := some (xSegs x.L x.s), hdv := by intro l hl D w F r h; cases hl; exact xk_read x h }
end Go.Proofs.Ytanpamcecaoanaa

/-
  The document's book: the region that lays a new item, in whatever order.
-/
namespace Go.Proofs.Ytanpamcecaoanaa
set_option maxRecDepth 100000
open Go.RowKit
set_option linter.unusedVariables false
set_option linter.unusedSimpArgs false

/-- what the operations come to that only reckon -/
def xcst (r : Nat) (V : Value) (e : Int) (p : List UInt8) : Nat → Option Value
  | 0 => some (.pointer (some ⟨r, 0, none⟩))
  | 1 => some (.pointer (some ⟨r, 0, none⟩))
  | 2 => some (.pointer (some ⟨r, 0, none⟩))
  | 3 => some (.pointer (some ⟨r, 0, none⟩))
  | 4 => some V
  | 5 => some (.int .i64 e)
  | 6 => some (.agg (HC p))
  | 7 => some (.agg (lineC e p))
  | 10 => some (.pointer (some ⟨r, 0, none⟩))
  | 11 => some (.pointer (some ⟨r, 0, none⟩))
  | _ => none
structure JX (w3 : World) (r A0 : Nat) (t : TypeId) (V : Value) (L : List Ln) (s e : Int) (p : List UInt8) (S : Nat → Bool) (vals : Nat → Value) (w : World) : Prop where
  grown : GrownX (fun k => k = r ∨ V.ownBlock = some k) w3 w
  paper : Blk w A0 (HC p) 30
  val : ∀ k x, S k = true → xcst r V e p k = some x → vals k = x
  x8 : S 8 = true → ∃ g, vals 8 = .slice (some ⟨g, 0, none⟩) 1 1 ∧ Blk w g (lineC e p) 60 ∧ w3.heap.size ≤ g
  old : S 9 = false → w.ownsRow 0 60 33 V L.length (lnC L)
  new : S 9 = true → w.ownsRow 0 60 33 (vals 9) (L.length + 1) (lnC (L ++ [(e, p)])) ∧ ((vals 9).ownBlock = V.ownBlock ∨ ∃ q, (vals 9).ownBlock = some q ∧ w3.heap.size ≤ q)
  blk0 : S 12 = false → Blk w r (XC V s) t
  blk1 : S 12 = true → Blk w r (XC (vals 9) s) t
  seq : S 12 = true → S 9 = true
section
variable {w3 : World} {r A0 : Nat} {t : TypeId} {V : Value} {L : List Ln} {s e : Int} {p : List UInt8} {S : Nat → Bool} {vals : Nat → Value} {w : World}
theorem JX.pure (h : JX w3 r A0 t V L s e p S vals w) {i : Nat} {x : Value} (hc : xcst r V e p i = some x) : JX w3 r A0 t V L s e p (add1 S i) (fun j => if j = i then x else vals j) w := by
  have n8 : 8 ≠ i := by rintro rfl; cases hc
  have n9 : 9 ≠ i := by rintro rfl; cases hc
  have n12 : 12 ≠ i := by rintro rfl; cases hc
  have s8 := add1_other S n8; have s9 := add1_other S n9; have s12 := add1_other S n12
  have v8 := updV vals i x n8; have v9 := updV vals i x n9
  refine ⟨h.grown, h.paper, fun k y hk hy => ?_, fun hk => ?_, fun hk => ?_, fun hk => ?_, fun hk => ?_, fun hk => ?_, fun hk => ?_⟩
  · by_cases e1 : k = i
    · subst e1; rw [hc] at hy; cases hy; exact if_pos rfl
    · rw [add1_other S e1] at hk; rw [updV vals i x e1]; exact h.val k y hk hy
  · rw [s8] at hk; rw [v8]; exact h.x8 hk
  · rw [s9] at hk; exact h.old hk
  · rw [s9] at hk; rw [v9]; exact h.new hk
  · rw [s12] at hk; exact h.blk0 hk
  · rw [s12] at hk; rw [v9]; exact h.blk1 hk
  · rw [s12] at hk; rw [s9]; exact h.seq hk
theorem xrow_keep {w w' : World} {v : Value} {n : Nat} {xs : List Value} (h : w.ownsRow 0 60 33 v n xs) (hk : ∀ q, v.ownBlock = some q → q < w.heap.size → w'.heap[q]? = w.heap[q]?) : w'.ownsRow 0 60 33 v n xs := by
  refine ⟨h.1, ?_⟩
  rcases h.2 with h1 | ⟨q, cap, cur, e, h2, h3, h4⟩
  · exact .inl h1
  · exact .inr ⟨q, cap, cur, e, h2, (hk q (by rw [e]; rfl) (Array.getElem?_eq_some_iff.1 h3).1).trans h3, h4⟩
theorem JX.alloc (h : JX w3 r A0 t V L s e p S vals w) (h9 : S 9 = false) (h12 : S 12 = false) : JX w3 r A0 t V L s e p (add1 S 8) (fun j => if j = 8 then .slice (some ⟨w.heap.size, 0, none⟩) 1 1 else vals j) (w.alloc (.cells (lineC e p) 60)) := by
  have s9 := add1_other S (show 9 ≠ 8 by decide); have s12 := add1_other S (show 12 ≠ 8 by decide)
  have ka : ∀ q, q < w.heap.size → (w.alloc (.cells (lineC e p) 60)).heap[q]? = w.heap[q]? := fun q hq => Below.heap_alloc _ _ _ hq
  refine ⟨⟨h.grown.os, h.grown.tape, h.grown.output, by rw [size_alloc]; have := h.grown.size; omega, fun k hk hn => (ka k (Nat.lt_of_lt_of_le hk h.grown.size)).trans (h.grown.block k hk hn)⟩, (ka _ h.paper.lt).trans h.paper, fun k y hk hy => ?_, fun _ => ⟨w.heap.size, if_pos rfl, heap_alloc_new _ _, h.grown.size⟩, fun hk => xrow_keep (h.old h9) fun q _ hq => ka q hq, fun hk => ?_, fun hk => (ka _ (h.blk0 h12).lt).trans (h.blk0 h12), fun hk => ?_, fun hk => ?_⟩
  · have e1 : k ≠ 8 := by rintro rfl; cases hy
    rw [add1_other S e1] at hk; rw [updV vals 8 _ e1]; exact h.val k y hk hy
  · rw [s9, h9] at hk; cases hk
  · rw [s12, h12] at hk; cases hk
  · rw [s12, h12] at hk; cases hk
theorem JX.app (h : JX w3 r A0 t V L s e p S vals w) (h9 : S 9 = false) (h12 : S 12 = false) {v' : Value} {w' : World} (hown : w'.ownsRow 0 60 33 v' (L.length + 1) (lnC (L ++ [(e, p)]))) (hg : w.grownBy w' V.ownBlock) (hv : v'.ownBlock = V.ownBlock ∨ v'.ownBlock = some w.heap.size) (h1 : V.ownBlock ≠ some r) (h2 : V.ownBlock ≠ some A0) (h3 : ∀ q, V.ownBlock = some q → q < w3.heap.size) :
    JX w3 r A0 t V L s e p (add1 S 9) (fun j => if j = 9 then v' else vals j) w' := by
  have s8 := add1_other S (show 8 ≠ 9 by decide); have s12 := add1_other S (show 12 ≠ 9 by decide)
  have ka : ∀ q, q < w.heap.size → V.ownBlock ≠ some q → w'.heap[q]? = w.heap[q]? := fun q hq hn => hg.block q hq (fun e => hn e.symm)
  have hm : ∀ q, V.ownBlock = some q → q < w3.heap.size := h3
  refine ⟨⟨hg.os.trans h.grown.os, hg.tape.trans h.grown.tape, hg.output.trans h.grown.output, Nat.le_trans h.grown.size hg.size, fun k hk hn => (ka k (Nat.lt_of_lt_of_le hk h.grown.size) (fun e => hn (.inr e))).trans (h.grown.block k hk hn)⟩, (ka _ h.paper.lt h2).trans h.paper, fun k y hk hy => ?_, fun hk => ?_, fun hk => ?_, fun _ => ?_, fun hk => (ka _ (h.blk0 h12).lt h1).trans (h.blk0 h12), fun hk => ?_, fun _ => add1_same S 9⟩
  · have e1 : k ≠ 9 := by rintro rfl; cases hy
    rw [add1_other S e1] at hk; rw [updV vals 9 _ e1]; exact h.val k y hk hy
  · rw [s8] at hk
    obtain ⟨g, k1, k2, k3⟩ := h.x8 hk
    refine ⟨g, by rw [updV vals 9 _ (show 8 ≠ 9 by decide)]; exact k1, (ka g k2.lt (fun e => ?_)).trans k2, k3⟩
    have := hm g e; omega
  · rw [add1_same] at hk; cases hk
  · show World.ownsRow w' 0 _ 33 v' _ _ ∧ (v'.ownBlock = V.ownBlock ∨ _)
    refine ⟨hown, hv.imp id fun e => ⟨_, e, h.grown.size⟩⟩
  · rw [s12, h12] at hk; cases hk
theorem JX.store (h : JX w3 r A0 t V L s e p S vals w) (h9 : S 9 = true) (h12 : S 12 = false) (hA : A0 ≠ r) (hr : r < w3.heap.size) (h1 : V.ownBlock ≠ some r) (x : Value) : JX w3 r A0 t V L s e p (add1 S 12) (fun j => if j = 12 then x else vals j) (w.setCell ⟨r, 0, none⟩ (vals 9)) := by
  have s8 := add1_other S (show 8 ≠ 12 by decide); have s9 := add1_other S (show 9 ≠ 12 by decide)
  have v8 := updV vals 12 x (show 8 ≠ 12 by decide); have v9 := updV vals 12 x (show 9 ≠ 12 by decide)
  have ka : ∀ q, q ≠ r → (w.setCell ⟨r, 0, none⟩ (vals 9)).heap[q]? = w.heap[q]? := fun q hq => heap_setCell_other w ⟨r, 0, none⟩ q _ hq
  have hs : (w.setCell ⟨r, 0, none⟩ (vals 9)).heap.size = w.heap.size := by simp [World.setCell]
  have hb : Blk (w.setCell ⟨r, 0, none⟩ (vals 9)) r (XC (vals 9) s) t := ((h.blk0 h12).set 0 _).copy rfl
  obtain ⟨n1, n2⟩ := h.new h9
  have hnr : ∀ q, (vals 9).ownBlock = some q → q ≠ r := fun q hq e1 => by
    subst e1
    rcases n2 with n2 | ⟨q', n2, n3⟩
    · rw [n2] at hq; exact h1 hq
    · rw [n2] at hq; cases hq; omega
  refine ⟨⟨h.grown.os, h.grown.tape, h.grown.output, by rw [hs]; exact h.grown.size, fun k hk hn => (ka k (fun e => hn (.inl e))).trans (h.grown.block k hk hn)⟩, (ka _ hA).trans h.paper, fun k y hk hy => ?_, fun hk => ?_, fun hk => ?_, fun _ => ?_, fun hk => ?_, fun _ => by rw [v9]; exact hb, fun _ => by rw [s9]; exact h9⟩
  · have e1 : k ≠ 12 := by rintro rfl; cases hy
    rw [add1_other S e1] at hk; rw [updV vals 12 _ e1]; exact h.val k y hk hy
  · rw [s8] at hk
    obtain ⟨g, k1, k2, k3⟩ := h.x8 hk
    exact ⟨g, by rw [v8]; exact k1, (ka g (by omega)).trans k2, k3⟩
  · rw [s9, h9] at hk; cases hk
  · rw [v9]
    exact ⟨xrow_keep n1 fun q hq _ => ka q (hnr q hq), n2⟩
  · rw [add1_same] at hk; cases hk
end
end Go.Proofs.Ytanpamcecaoanaa

/-
  The document's book: what reads it.
-/
namespace Go.Proofs.Ytanpamcecaoanaa
set_option maxRecDepth 100000
open Go.RowKit
set_option linter.unusedVariables false
set_option linter.unusedSimpArgs false
attribute [local irreducible] condK LoopA regA hasV getV
set_option maxHeartbeats 1000000 in
theorem xholds_fn (L : List Ln) (s e : Int) (hL : L.length ≤ 1000000) : FnO 20 [.sref (xSegs L s) 0, .v (.int .i64 e)] (.t [.agg [.bytes 32 (getV L e)], .v (.bool (hasV L e))]) := by
  refine fnA (E := env0) Try.func20 Try.ntmps20 ?_
  obtain ⟨N, hN, hno, hend⟩ := first_ln L e
  unfold xSegs
  refine agow ?_; (try with_reducible exact True.intro)
  refine StopL.mk (loop_forG [0, 1, 4, 5, 6] [0] N (fun j => ⟨[.d (.sref [.gen 1 [.recs L.length 33 (lineF L)], .ints .i64 1 [s]] 0), .d (.v (.int .i64 e)), .dead, .dead, .ptr 0 0, .d (.v (.bool false)), .d (.v (.int .i64 (j : Nat))), .dead, .dead, .dead, .dead, .dead, .dead, .dead, .dead, .dead, .dead, .dead, .dead, .dead, .dead, .dead, .dead, .dead, .dead, .dead, .dead, .dead, .dead, .dead, .dead, .dead, .dead, .dead, .dead], [some (.var [.bytes 32 H0])]⟩) ?_)
  intro j hj hl
  by_cases h : j < N
  · have h1 : (j : Int) < (L.length : Int) := by omega
    have h2 : ((L.getD j (0, [])).1 == e) = false := by simpa using hno j h
    clear hend hno
    refine agow ?_; (try with_reducible exact True.intro)
    refine hl.go h [0, 1, 4, 5, 6] [0] ?_
    rfl
  · obtain rfl : j = N := by omega
    rcases hend with ⟨rfl, h4, h5⟩ | ⟨h3, h4, h5, h6⟩
    · have h1 : ¬ (L.length : Int) < (L.length : Int) := by omega
      rw [h4, h5]
      clear h4 h5 hno
      refine agow ?_; (try with_reducible exact True.intro)
      rfl
    · have h1 : (j : Int) < (L.length : Int) := by omega
      have h2 : ((L.getD j (0, [])).1 == e) = true := by simpa using h4
      rw [h5, h6]
      clear h4 h5 h6 hno
      refine agow ?_; (try with_reducible exact True.intro)
theorem eqs_no {q p : List UInt8} (h : ¬ q = p) : eqSegs [.bytes 32 q] [.bytes 32 p] = false := by simp [eqSegs, h]
theorem beq_no {q p : List UInt8} (h : ¬ q = p) : ¬ (q == p) = true := by simpa using h
set_option maxHeartbeats 2000000 in
theorem xwrite_fn (L : List Ln) (s : Nat) (f : Nat) (e : Int) (p : List UInt8) (hL : L.length ≤ 1000000) (hc : (e < 0 ∨ e > 1099511627776) ∨ hasV L e = true ∨ 100 ≤ L.length) : FnO 6 [.sref (xSegs L s) 0, .v (.int .i64 e), .agg [.bytes 32 p]] (.d (.v (.int .i64 (writeE ⟨L, s, f⟩ e p)))) := by
  refine fnA (E := env0) Try.func6 Try.ntmps6 ?_
  unfold xSegs writeE
  dsimp only
  by_cases c0 : e < 0
  · rw [if_pos (.inl c0)]
    refine agow ?_; (try with_reducible exact True.intro)
  by_cases c1 : e > 1099511627776
  · rw [if_pos (.inr c1)]
    refine agow ?_; (try with_reducible exact True.intro)
  rw [if_neg (fun h => h.elim c0 c1)]
  have hc : hasV L e = true ∨ 100 ≤ L.length := hc.resolve_left (fun h => h.elim c0 c1)
  obtain ⟨N, hN, hno, hend⟩ := first_ln L e
  refine agow ?_; (try with_reducible exact True.intro)
  refine StopL.mk (loop_forG [0, 1, 5, 6, 7] [0] N (fun j => ⟨[.d (.sref [.gen 1 [.recs L.length 33 (lineF L)], .ints .i64 1 [(s : Int)]] 0), .d (.v (.int .i64 e)), .dead, .dead, .dead, .ptr 0 0, .d (.v (.int .i64 0)), .d (.v (.int .i64 (j : Nat))), .dead, .dead, .dead, .dead, .dead, .dead, .dead, .dead, .dead, .dead, .dead, .dead, .dead, .dead, .dead, .dead, .dead, .dead, .dead, .dead, .dead, .dead, .dead, .dead, .dead, .dead, .dead, .dead, .dead, .dead, .dead, .dead, .dead, .dead, .dead, .dead, .dead, .dead, .dead, .dead, .dead, .dead, .dead, .dead, .dead, .dead, .dead, .dead, .dead, .dead, .dead, .dead, .dead], [some (.var [.bytes 32 p])]⟩) ?_)
  intro j hj hl
  by_cases h : j < N
  · have h1 : (j : Int) < (L.length : Int) := by omega
    have h2 : ((L.getD j (0, [])).1 == e) = false := by simpa using hno j h
    clear hend hno hc
    refine agow ?_; (try with_reducible exact True.intro)
    refine hl.go h [0, 1, 5, 6, 7] [0] ?_
    rfl
  · obtain rfl : j = N := by omega
    rcases hend with ⟨rfl, h4, h5⟩ | ⟨h3, h4, h5, h6⟩
    · have h1 : ¬ (L.length : Int) < (L.length : Int) := by omega
      have h7 : 100 ≤ L.length := hc.resolve_left (by rw [h4]; exact Bool.false_ne_true)
      have h8 : (L.length : Int) ≥ 100 := by omega
      rw [if_neg (by rw [h4]; exact Bool.false_ne_true), if_pos h7]
      clear h4 h5 hno hc
      refine agow ?_; (try with_reducible exact True.intro)
    · have h1 : (j : Int) < (L.length : Int) := by omega
      have h2 : ((L.getD j (0, [])).1 == e) = true := by simpa using h4
      rw [if_pos h5]
      rw [h6]
      clear h4 h5 h6 hno hc
      by_cases h9 : (L.getD j (0, [])).2 = p
      · have h10 : eqSegs [.bytes 32 (L.getD j (0, [])).2] [.bytes 32 p] = true := by rw [h9]; simp [eqSegs]
        rw [if_pos (by rw [h9]; simp)]
        clear h9
        refine agow ?_; (try with_reducible exact True.intro)
      · have h10 : eqSegs [.bytes 32 (L.getD j (0, [])).2] [.bytes 32 p] = false := eqs_no h9
        rw [if_neg (beq_no h9)]
        clear h9
        refine agow ?_; (try with_reducible exact True.intro)
end Go.Proofs.Ytanpamcecaoanaa
