/-
  Arguments made of numbers and truths, opened; laws out of contracts. No program is named here.
-/
import Derived.Test.YtcfdlffjghlghaaA15
import Derived.Test.YtcfdlffjghlghaaOpenI
namespace Go.Proofs.Ytcfdlffjghlghaa
set_option maxRecDepth 100000
open Go.RowKit Go.ChangeShapes Go.WideShapes
set_option linter.unusedVariables false
set_option linter.unusedSimpArgs false

/-- a number is in its kind's range -/
def wfV : Value → Prop | .int k z => (Lit.int k z).wf = true | _ => True

section
variable {H : Type} {enc : TypeId × Value → H} {P : Program} {w : World} {base b0 : Nat} {spare : Nat → Bool} {held : Bool}

theorem kinds_of_trod : ∀ (d : Nat) (t : TypeId) (s : List (Option IntKind)), sigT P d t = some s → ∀ {fuel : Nat} {cs : List Value} {x : DataW H × List MemPlace}, DataW.trod enc P w base spare held fuel t cs = some x → cs.length = s.length →
    cs.map cellKind = s.map some ∧ ∀ v ∈ cs, wfV v
  | 0, t, s, h => by cases h
  | d + 1, t, s, h => by
    intro hx hl
    rename_i fuel cs x
    have ih := kinds_of_trod d
    unfold sigT at h
    simp only at h
    split at h
    case h_2 => cases h
    next s' hs =>
    split at h
    case h_2 => cases h
    next i hi =>
    split at h
    case isFalse => cases h
    next hsz =>
    cases h
    split at hs
    · next hu =>
      cases hs
      obtain ⟨b, rfl, _⟩ := DataW.trod_bool hu hx
      exact ⟨rfl, by simp [wfV]⟩
    · next k hu =>
      cases hs
      obtain ⟨z, rfl, _, hw⟩ := DataW.trod_int hu hx
      exact ⟨rfl, by simp [wfV, hw]⟩
    · next n e hu =>
      cases he : sigT P d e with
      | none => rw [he] at hs; cases hs
      | some a =>
        rw [he] at hs
        cases hs
        obtain ⟨xs, m, _, _, hcl, hxl, hel⟩ := DataW.trod_array hu hx
        obtain ⟨_, _, _, hce, _⟩ := sigT_info he
        rw [hce] at hel
        have go : ∀ (k j : Nat), j + k = n → (cs.drop (j * a.length)).map cellKind = ((List.replicate k a).flatten).map some ∧ ∀ v ∈ cs.drop (j * a.length), wfV v := by
          intro k
          induction k with
          | zero =>
            intro j hj
            have : cs.drop (j * a.length) = [] := by
              apply List.drop_of_length_le
              rw [hl]; simp; rw [show j = n by omega]; exact Nat.le_refl _
            rw [this]; simp
          | succ k ihk =>
            intro j hj
            obtain ⟨h1, h2⟩ := ihk (j + 1) (by omega)
            have hlt : j < xs.length := by omega
            have h3 := hel j (by omega)
            rw [List.getElem?_eq_getElem hlt] at h3
            have hja : (j + 1) * a.length ≤ cs.length := by
              rw [hl]; simp
              exact Nat.mul_le_mul_right _ (by omega)
            have hjj : (j + 1) * a.length = j * a.length + a.length := by rw [Nat.add_mul, Nat.one_mul]
            obtain ⟨h4, h5⟩ := ih e a he h3 (by simp; omega)
            have split : cs.drop (j * a.length) = (cs.drop (j * a.length)).take a.length ++ cs.drop ((j + 1) * a.length) := by rw [hjj, ← List.drop_drop, List.take_append_drop]
            rw [split, List.map_append, h4, h1, List.replicate_succ, List.flatten_cons, List.map_append]
            refine ⟨rfl, fun v hv => ?_⟩
            rcases List.mem_append.1 hv with hv | hv
            · exact h5 v hv
            · exact h2 v hv
        have := go n 0 (by omega)
        simpa using this
    · next fs hu =>
      split at hs
      · cases hs
      · obtain ⟨xs, m, _, _, hcl, hxl, hel⟩ := DataW.trod_struct hu hx
        have go : ∀ (fl : List Field) (j off : Nat) (s : List (Option IntKind)), fs.toList.drop j = fl → sigF (sigT P d) off fl = some s → off + s.length = cs.length → (cs.drop off).map cellKind = s.map some ∧ ∀ v ∈ cs.drop off, wfV v := by
          intro fl
          induction fl with
          | nil =>
            intro j off s _ hs hlen
            cases hs
            have : cs.drop off = [] := List.drop_of_length_le (by simp at hlen; omega)
            rw [this]; simp
          | cons f fl ihf =>
            intro j off s hd hs hlen
            unfold sigF at hs
            split at hs
            · next hf =>
              cases ha : sigT P d f.type with
              | none => rw [ha] at hs; cases hs
              | some a =>
                rw [ha] at hs
                cases hr : sigF (sigT P d) (off + a.length) fl with
                | none => simp [hr] at hs
                | some b =>
                  simp only [hr, Option.map_some, Option.some.injEq] at hs
                  subst hs
                  rw [List.length_append] at hlen
                  have hj : fs[j]? = some f := by
                    have := congrArg (·[0]?) hd
                    simpa using this
                  have hjl : j < xs.length := by
                    have := (Array.getElem?_eq_some_iff.1 hj).1
                    omega
                  obtain ⟨h1, h2⟩ := ihf (j + 1) (off + a.length) b (by
                    have := congrArg (List.drop 1) hd
                    rw [List.drop_drop] at this; simpa using this) hr (by omega)
                  have h3 := hel j f hj
                  obtain ⟨_, _, _, hca, _⟩ := sigT_info ha
                  rw [List.getElem?_eq_getElem hjl, hca, hf.2] at h3
                  obtain ⟨h4, h5⟩ := ih f.type a ha h3 (by simp; omega)
                  have split : cs.drop off = (cs.drop off).take a.length ++ cs.drop (off + a.length) := by rw [← List.drop_drop, List.take_append_drop]
                  rw [split, List.map_append, h4, h1, List.map_append]
                  refine ⟨rfl, fun v hv => ?_⟩
                  rcases List.mem_append.1 hv with hv | hv
                  · exact h5 v hv
                  · exact h2 v hv
            · cases hs
        have := go fs.toList 0 0 _ (by simp) hs (by rw [hl]; simp)
        simpa using this
    · cases hs

theorem ints_of_kinds {k : IntKind} : ∀ (cs : List Value), (∀ v ∈ cs, cellKind v = some (some k)) → (∀ v ∈ cs, wfV v) → ∃ zs : List Int, cs = zs.map (Value.int k) ∧ ∀ z ∈ zs, (Lit.int k z).wf = true
  | [], _, _ => ⟨[], rfl, by simp⟩
  | v :: cs, h, hw => by
    obtain ⟨zs, rfl, h2⟩ := ints_of_kinds cs (fun u hu => h u (by simp [hu])) (fun u hu => hw u (by simp [hu]))
    have h3 := h v (by simp)
    have h4 := hw v (by simp)
    cases v <;> simp [cellKind] at h3
    subst h3
    rename_i z
    exact ⟨z :: zs, rfl, fun y hy => by rcases List.mem_cons.1 hy with rfl | hy; exact h4; exact h2 y hy⟩
/-- a struct or an array of whole numbers -/
theorem open_flat {r : Reach} {t : TypeId} {v : Value} {dd : DataW H} {ps : List MemPlace} {n : Nat} (hs : sigT P 20 t = some (List.replicate n (some .i64))) (ha : aggOf P t = true)
    (hval : Value.okWide P w r b0 t v) (h : DataW.Trod enc P w base spare held t v dd ps) : ∃ zs : List Int, v = .agg (zs.map (Value.int .i64)).toArray ∧ zs.length = n ∧ ∀ z ∈ zs, (Lit.int .i64 z).wf = true := by
  obtain ⟨cs, rfl, hsz⟩ : ∃ cs, v = .agg cs ∧ cs.size = P.cellsOf t := by
    unfold Value.okWide at hval
    unfold aggOf at ha
    split at hval
    · obtain ⟨cs, h1, h2, _⟩ := hval; exact ⟨cs, h1, h2⟩
    · obtain ⟨cs, h1, h2, _⟩ := hval; exact ⟨cs, h1, h2⟩
    · next h1 h2 =>
      split at ha
      · next fs hu => exact absurd hu (h1 fs)
      · next n e hu => exact absurd hu (h2 n e)
      · cases ha
  obtain ⟨fuel, hf⟩ := h
  obtain ⟨_, _, _, hc, _⟩ := sigT_info hs
  have hl : cs.toList.length = n := by rw [Array.length_toList, hsz, hc]; simp
  obtain ⟨h1, h2⟩ := kinds_of_trod 20 t _ hs hf (by simp [Value.cells]; simpa using hl)
  obtain ⟨zs, h3, h4⟩ := ints_of_kinds cs.toList (k := .i64) (fun v hv => by
    have : cellKind v ∈ ((Value.agg cs).cells.toList).map cellKind := List.mem_map.2 ⟨v, hv, rfl⟩
    rw [h1] at this
    simp at this
    first | exact this.2.symm | exact this.2) h2
  refine ⟨zs, ?_, ?_, h4⟩
  · rw [← h3]
  · rw [← hl, h3, List.length_map]
end

/-- nil is a slice of one's own with nothing in it -/
theorem fnNil {P : Program} {G : Nat → Option (List Seg)} {f : FuncId} {args : List A} {e : TypeId} {sz : Nat} {l : List Seg} (h : FnOK P G f args (.d (.v (.slice none 0 0)))) (hl : l.all segNil = true) : FnOK P G f args (.o e sz 0 l) := by
  intro S w vs hG ha
  refine (h S w vs hG ha).mono ?_
  rintro e' w' ⟨v, rfl, h1, h2⟩
  refine ⟨v, rfl, ⟨[], ?_, rl_nil hl⟩, h2⟩
  rw [RA.plain h1]
  exact World.ownsRow_nil _ _ _ _
/-- a struct or an array of numbers and truths: its cells by their kinds -/
theorem open_agg {H : Type} {enc : TypeId × Value → H} {P : Program} {w : World} {base b0 : Nat} {spare : Nat → Bool} {held : Bool} {r : Reach} {t : TypeId} {v : Value} {dd : DataW H} {ps : List MemPlace} {sg : List (Option IntKind)} (hs : sigT P 20 t = some sg) (ha : aggOf P t = true)
    (hval : Value.okWide P w r b0 t v) (h : DataW.Trod enc P w base spare held t v dd ps) : ∃ cs : List Value, v = .agg cs.toArray ∧ cs.map cellKind = sg.map some ∧ ∀ u ∈ cs, wfV u := by
  obtain ⟨cs, rfl, hsz⟩ : ∃ cs, v = .agg cs ∧ cs.size = P.cellsOf t := by
    unfold Value.okWide at hval
    unfold aggOf at ha
    split at hval
    · obtain ⟨cs, h1, h2, _⟩ := hval; exact ⟨cs, h1, h2⟩
    · obtain ⟨cs, h1, h2, _⟩ := hval; exact ⟨cs, h1, h2⟩
    · next h1 h2 =>
      split at ha
      · next fs hu => exact absurd hu (h1 fs)
      · next n e hu => exact absurd hu (h2 n e)
      · cases ha
  obtain ⟨fuel, hf⟩ := h
  obtain ⟨_, _, _, hc, _⟩ := sigT_info hs
  have hl : cs.toList.length = sg.length := by rw [Array.length_toList, hsz, hc]
  obtain ⟨h1, h2⟩ := kinds_of_trod 20 t _ hs hf (by simp [Value.cells]; simpa using hl)
  exact ⟨cs.toList, by simp, h1, h2⟩
theorem kinds_split {cs : List Value} {a b : List (Option IntKind)} (h : cs.map cellKind = (a ++ b).map some) (hw : ∀ u ∈ cs, wfV u) :
    ∃ c d, cs = c ++ d ∧ c.map cellKind = a.map some ∧ d.map cellKind = b.map some ∧ (∀ u ∈ c, wfV u) ∧ ∀ u ∈ d, wfV u := by
  refine ⟨cs.take a.length, cs.drop a.length, (List.take_append_drop _ _).symm, ?_, ?_, fun u hu => hw u (List.mem_of_mem_take hu), fun u hu => hw u (List.mem_of_mem_drop hu)⟩
  · rw [List.map_take, h, List.map_append, List.take_append_of_le_length (by simp), List.take_of_length_le (by simp)]
  · rw [List.map_drop, h, List.map_append, List.drop_append_of_le_length (by simp), List.drop_of_length_le (by simp), List.nil_append]
theorem kinds_ints {k : IntKind} {n : Nat} {cs : List Value} (h : cs.map cellKind = (List.replicate n (some k)).map some) (hw : ∀ u ∈ cs, wfV u) : ∃ zs : List Int, cs = zs.map (Value.int k) ∧ zs.length = n ∧ ∀ z ∈ zs, (Lit.int k z).wf = true := by
  obtain ⟨zs, h3, h4⟩ := ints_of_kinds cs (k := k) (fun v hv => by
    have : cellKind v ∈ cs.map cellKind := List.mem_map.2 ⟨v, hv, rfl⟩
    rw [h] at this
    simp at this
    first | exact this.2.symm | exact this.2) hw
  refine ⟨zs, h3, ?_, h4⟩
  have := congrArg List.length h
  rw [h3] at this
  simpa using this
theorem kinds_bytes {n : Nat} {cs : List Value} (h : cs.map cellKind = (List.replicate n (some .u8)).map some) (hw : ∀ u ∈ cs, wfV u) : ∃ bs : List UInt8, cs = HL bs ∧ bs.length = n := by
  obtain ⟨zs, rfl, h2, h3⟩ := kinds_ints h hw
  refine ⟨zs.map fun z => UInt8.ofNat z.toNat, ?_, by simpa using h2⟩
  unfold HL
  rw [List.map_map]
  refine List.map_congr_left fun z hz => ?_
  have hb := h3 z hz
  simp [Lit.wf, IntKind.signed, IntKind.bits, IntKind.min, IntKind.max] at hb
  simp only [Function.comp, Bt]
  congr 1
  simp
  omega
theorem kinds_bools {n : Nat} {cs : List Value} (h : cs.map cellKind = (List.replicate n none).map some) : ∃ bs : List Bool, cs = bs.map Value.bool ∧ bs.length = n := by
  have hl : cs.length = n := by have := congrArg List.length h; simpa using this
  refine ⟨cs.map fun | .bool b => b | _ => false, ?_, by simpa using hl⟩
  rw [List.map_map]
  conv => lhs; rw [← List.map_id cs]
  refine List.map_congr_left fun v hv => ?_
  have : cellKind v ∈ cs.map cellKind := List.mem_map.2 ⟨v, hv, rfl⟩
  rw [h] at this
  simp at this
  have hk : cellKind v = some none := by first | exact this.2.symm | exact this.2
  cases v <;> simp [cellKind] at hk
  rfl
theorem open_bools {H : Type} {enc : TypeId × Value → H} {P : Program} {w : World} {base b0 : Nat} {spare : Nat → Bool} {held : Bool} {r : Reach} {t : TypeId} {v : Value} {dd : DataW H} {ps : List MemPlace} {n : Nat} (hs : sigT P 20 t = some (List.replicate n none)) (ha : aggOf P t = true)
    (hval : Value.okWide P w r b0 t v) (h : DataW.Trod enc P w base spare held t v dd ps) : ∃ bs : List Bool, v = .agg (bs.map Value.bool).toArray ∧ bs.length = n := by
  obtain ⟨cs, rfl, h1, _⟩ := open_agg hs ha hval h
  obtain ⟨bs, rfl, h2⟩ := kinds_bools h1
  exact ⟨bs, rfl, h2⟩
/-- a law's call out of its contract -/
theorem law_of_fn {P : Program} {G : Nat → Option (List Seg)} {f : FuncId} {args : List A} {vs : List Value} {w : World} (h : FnOK P G f args (.d (.v (.bool true)))) (hG : GOK G (fun _ => True) w) (ha : RAs (fun _ => True) w args vs) :
    Calls P f vs.toArray w fun e w' => e = .returned (.bool true) ∧ Below w.heap.size w w' := by
  refine (h _ w vs hG ha).mono ?_
  rintro e w' ⟨v, rfl, h1, h2⟩
  rw [RA.plain h1]
  exact ⟨rfl, h2⟩
theorem ra_ints {S : Nat → Prop} {w : World} {k : IntKind} {n : Nat} {zs : List Int} (h : zs.length = n) : RA S w (.agg [.ints k n zs]) (.agg (zs.map (Value.int k)).toArray) := .agg (.ofInts h rfl)
/-- contracts of functions that take and give plain values, and leave memory asx it is -/
theorem fn_plain1 {P : Program} {G : Nat → Option (List Seg)} {f : FuncId} {x v : Value} (h : ∀ w, Calls P f #[x] w fun e w' => e = .returned v ∧ w = w') : FnOK P G f [.v x] (.d (.v v)) := by
  intro S w vs _ ha
  cases ha with
  | cons h1 r =>
    cases r
    rw [RA.plain h1]
    refine (h w).mono ?_
    rintro e w' ⟨rfl, rfl⟩
    exact ⟨v, rfl, .v v, Below.refl _ _⟩
theorem fn_plain2 {P : Program} {G : Nat → Option (List Seg)} {f : FuncId} {x y v : Value} (h : ∀ w, Calls P f #[x, y] w fun e w' => e = .returned v ∧ w = w') : FnOK P G f [.v x, .v y] (.d (.v v)) := by
  intro S w vs _ ha
  cases ha with
  | cons h1 r =>
    cases r with
    | cons h2 r =>
      cases r
      rw [RA.plain h1, RA.plain h2]
      refine (h w).mono ?_
      rintro e w' ⟨rfl, rfl⟩
      exact ⟨v, rfl, .v v, Below.refl _ _⟩
theorem wrapS {z : Int} (h0 : -9223372036854775808 ≤ z) (h1 : z ≤ 9223372036854775807) : IntKind.i64.wrap z = z := by
  have e1 : (2 : Int) ^ 64 = 18446744073709551616 := by decide
  have e2 : (2 : Int) ^ (64 - 1) = 9223372036854775808 := by decide
  simp only [IntKind.wrap, IntKind.signed, IntKind.bits, Bool.true_and, decide_eq_true_eq, e1, e2]
  split <;> omega
end Go.Proofs.Ytcfdlffjghlghaa
