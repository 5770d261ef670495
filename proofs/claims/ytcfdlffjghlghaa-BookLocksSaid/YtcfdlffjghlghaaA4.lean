/-
  Operations of the machine without memory, and that what they come to is what the program's operations come to. No program is named here.
-/
import Derived.Test.YtcfdlffjghlghaaA3
import Derived.Laws.CopyRow
namespace Go.Proofs.Ytcfdlffjghlghaa
set_option maxRecDepth 100000
open Go.RowKit
set_option linter.unusedVariables false
set_option linter.unusedSimpArgs false

/-- the program, what is told of its types and of its functions -/
structure Env where
  P : Program
  Y : TypeId → Option TI
  G : Nat → Option (List Seg)
  C : FuncId → List A → (Res → Prop) → Prop
  M : FuncId → Nat → Bk → List A → (Res → Bk → Prop) → Prop
  B : FuncId → Nat → OP → List A → (Res → OP → Prop) → Prop := fun _ _ _ _ _ => False
  hY : ∀ t i, Y t = some i → TyOK P t i
  hC : ∀ f args K, C f args K → ∃ r, FnOK P G f args r ∧ K r
  hMu : ∀ f pos x args K, M f pos x args K → (∃ r x', FnM P G f pos x args r x' ∧ K r x') ∧ ∃ fn, P.funcs[f]? = some fn ∧ fn.body.isNone = false ∧ (fn.name == "runtime.NumGoroutine") = false
  hB : ∀ f pos p args K, B f pos p args K → (∃ r p', FnB P G f pos p args r p' ∧ K r p') ∧ ∃ fn, P.funcs[f]? = some fn ∧ fn.body.isNone = false ∧ (fn.name == "runtime.NumGoroutine") = false := by intro _ _ _ _ _ h; exact h.elim
  hF : ∀ f args K, C f args K → ∃ fn, P.funcs[f]? = some fn ∧ fn.body.isNone = false ∧ (fn.name == "runtime.NumGoroutine") = false

def St.ev (s : St) : Operand → T
  | .tmp t => s.sl t
  | .const v => .d (.v v)
  | .func f => .d (.v (.func (.func f) #[] #[]))
  | .global _ => .dead

/-- what an operation writes: its slot, perhaps a block -/
abbrev KO := T → Option (Nat × Bk) → Prop

def binK (op : BinOp) (p q : A) (K : A → Prop) : Prop :=
  match p, q with
  | .v (.int k a), .v (.int k' b) =>
    (match op with
     | .add => k = k' ∧ K (.v (.int k (k.wrap (a + b))))
     | .sub => k = k' ∧ K (.v (.int k (k.wrap (a - b))))
     | .mul => k = k' ∧ K (.v (.int k (k.wrap (a * b))))
     | .quo => k = k' ∧ b ≠ 0 ∧ K (.v (.int k (k.wrap (a.tdiv b))))
     | .rem => k = k' ∧ b ≠ 0 ∧ K (.v (.int k (a.tmod b)))
     | .and => k = k' ∧ K (.v (.int k (bits .and k a b)))
     | .or => k = k' ∧ K (.v (.int k (bits .or k a b)))
     | .xor => k = k' ∧ K (.v (.int k (bits .xor k a b)))
     | .andNot => k = k' ∧ K (.v (.int k (bits .andNot k a b)))
     | .shl => ¬ b < 0 ∧ K (.v (.int k (k.wrap (a * 2 ^ (min b.toNat k.bits)))))
     | .shr => ¬ b < 0 ∧ K (.v (.int k (a.fdiv (2 ^ (min b.toNat k.bits)))))
     | .eql => k = k' ∧ K (.v (.bool (a == b)))
     | .neq => k = k' ∧ K (.v (.bool (a != b)))
     | .lss => k = k' ∧ K (.v (.bool (decide (a < b))))
     | .leq => k = k' ∧ K (.v (.bool (decide (a ≤ b))))
     | .gtr => k = k' ∧ K (.v (.bool (decide (a > b))))
     | .geq => k = k' ∧ K (.v (.bool (decide (a ≥ b)))))
  | _, _ => False

/-- n cells (a part of a type that is a struct or an array, or just one) out of segments: at a known place; or so far into what lies there -/
def rdK (l : List Seg) (agg : Bool) (n base : Nat) (K : A → Prop) : Prop :=
  if agg = true then (match cut l base n with | some m => base + n ≤ segN l ∧ K (.agg m) | none => False)
  else (match loc l base with | some (_, s, _, i) => K (s.cell i) | none => False)
def rdiK (l : List Seg) (agg : Bool) (n base rel : Nat) (K : A → Prop) : Prop :=
  match l with
  | [s] => if agg = true then base + rel + n ≤ s.n ∧ K (.agg [s.sub (base + rel) n]) else base + rel < s.n ∧ K (s.cell (base + rel))
  | l =>
  match loc l base with
  | some (_, s, _, i) => if agg = true then i + rel + n ≤ s.n ∧ K (.agg [s.sub (i + rel) n]) else i + rel < s.n ∧ K (s.cell (i + rel))
  | none => False
/-- the same, written -/
def wrK (l : List Seg) (base : Nat) (a : A) (n : Nat) (K : List Seg → Prop) : Prop :=
  match a with
  | .agg m => segN m = n ∧ (match put l base m with | some l' => K l' | none => False)
  | a => n = 1 ∧ (match loc l base with | some (p, s, q, i) => s.setK i a fun s' => K (p ++ s' :: q) | none => False)
def wriK (l : List Seg) (base rel : Nat) (a : A) (n : Nat) (K : List Seg → Prop) : Prop :=
  match loc l base with
  | some (p, s, q, i) => (match a with
    | .agg [x] => x.n = n ∧ i + rel + n ≤ s.n ∧ (match s.over (i + rel) x with | some s' => K (p ++ s' :: q) | none => False)
    | .agg _ => False
    | a => n = 1 ∧ i + rel < s.n ∧ s.setK (i + rel) a fun s' => K (p ++ s' :: q))
  | none => False

section
variable {S : Nat → Prop} {w : World}
theorem rdK_spec {l : List Seg} {agg : Bool} {n base : Nat} {K : A → Prop} (h : rdK l agg n base K) : ∃ a, K a ∧ ∀ {S : Nat → Prop} {w : World} {cs : List Value}, RL S w l cs →
    (agg = true → base + n ≤ cs.length ∧ RA S w a (.agg ((cs.drop base).take n).toArray)) ∧ (agg = false → ∃ v, cs[base]? = some v ∧ RA S w a v ∧ v.oneCell' = true) := by
  unfold rdK at h
  cases agg with
  | true =>
    simp only [if_true] at h
    cases hc : cut l base n with
    | none => rw [hc] at h; exact h.elim
    | some m =>
      rw [hc] at h
      exact ⟨_, h.2, fun hl => ⟨fun _ => ⟨by rw [hl.len]; exact h.1, .agg (hl.cut hc).1⟩, fun e => by cases e⟩⟩
  | false =>
    simp only [Bool.false_eq_true, if_false] at h
    cases hc : loc l base with
    | none => rw [hc] at h; exact h.elim
    | some x =>
      obtain ⟨p, s, q, i⟩ := x
      rw [hc] at h
      refine ⟨_, h, fun hl => ⟨fun e => (by cases e), fun _ => ?_⟩⟩
      obtain ⟨c, d, e, rfl, h1, h2, h3, h4, h5, h6⟩ := hl.found hc
      obtain ⟨v, h7, h8, h9⟩ := h2.cell i h5
      refine ⟨v, ?_, h8, h9⟩
      rw [← h4, List.getElem?_append_right (by omega), show c.length + i - c.length = i by omega, List.getElem?_append_left (by omega)]
      exact h7
theorem rdiK_spec {l : List Seg} {agg : Bool} {n base rel : Nat} {K : A → Prop} (h : rdiK l agg n base rel K) : ∃ a, K a ∧ ∀ {S : Nat → Prop} {w : World} {cs : List Value}, RL S w l cs →
    (agg = true → base + rel + n ≤ cs.length ∧ RA S w a (.agg ((cs.drop (base + rel)).take n).toArray)) ∧ (agg = false → ∃ v, cs[base + rel]? = some v ∧ RA S w a v ∧ v.oneCell' = true) := by
  unfold rdiK at h
  split at h
  · next s =>
    cases agg with
    | true =>
      simp only [if_true] at h
      refine ⟨_, h.2, fun hl => ⟨fun _ => ?_, fun e => by cases e⟩⟩
      have hlen := hl.len
      simp only [segN, Nat.add_zero] at hlen
      exact ⟨by omega, .agg (hl.sub _ n h.1)⟩
    | false =>
      simp only [Bool.false_eq_true, if_false] at h
      exact ⟨_, h.2, fun hl => ⟨fun e => (by cases e), fun _ => hl.cell _ h.1⟩⟩
  cases hc : loc l base with
  | none => rw [hc] at h; exact h.elim
  | some x =>
    obtain ⟨p, s, q, i⟩ := x
    rw [hc] at h
    simp only at h
    cases agg with
    | true =>
      simp only [if_true] at h
      refine ⟨_, h.2, fun hl => ⟨fun _ => ?_, fun e => by cases e⟩⟩
      obtain ⟨c, d, e, rfl, h1, h2, h3, h4, h5, h6⟩ := hl.found hc
      refine ⟨by simp; omega, ?_⟩
      have := h2.sub (i + rel) n h.1
      rw [← h4, List.drop_append, List.drop_of_length_le (by omega), List.nil_append, show c.length + i + rel - c.length = i + rel by omega, List.drop_append_of_le_length (by omega), List.take_append_of_le_length (by simp; omega)]
      exact .agg this
    | false =>
      simp only [Bool.false_eq_true, if_false] at h
      refine ⟨_, h.2, fun hl => ⟨fun e => (by cases e), fun _ => ?_⟩⟩
      obtain ⟨c, d, e, rfl, h1, h2, h3, h4, h5, h6⟩ := hl.found hc
      obtain ⟨v, h7, h8, h9⟩ := h2.cell (i + rel) h.1
      refine ⟨v, ?_, h8, h9⟩
      rw [← h4, List.getElem?_append_right (by omega), show c.length + i + rel - c.length = i + rel by omega, List.getElem?_append_left (by omega)]
      exact h7
theorem set_mid {c d e : List Value} {i : Nat} (v : Value) (h : i < d.length) : (c ++ (d ++ e)).take (c.length + i) ++ ([v] ++ (c ++ (d ++ e)).drop (c.length + i + 1)) = c ++ (d.set i v ++ e) := by
  rw [List.take_append, List.take_of_length_le (by omega), show c.length + i - c.length = i by omega, List.take_append_of_le_length (by omega),
    List.drop_append, List.drop_of_length_le (by omega), List.nil_append, show c.length + i + 1 - c.length = i + 1 by omega, List.drop_append_of_le_length (by omega),
    List.set_eq_take_append_cons_drop, if_pos h]
  simp
theorem setK_uni {s : Seg} {i : Nat} {a : A} {K : Seg → Prop} (h : s.setK i a K) : ∃ s', K s' ∧ ∀ {S : Nat → Prop} {w : World} {ds : List Value} {v : Value}, RL S w [s] ds → RA S w a v → RL S w [s'] (ds.set i v) ∧ v.oneCell' = true := by
  cases s with
  | ints k m zs =>
    simp only [Seg.setK] at h
    split at h
    · obtain ⟨rfl, hK⟩ := h
      exact ⟨_, hK, fun hd hv => by cases hv; obtain ⟨h1, rfl⟩ := hd.toInts; exact ⟨.ofInts (by simp [h1]) (by simp [List.map_set]), rfl⟩⟩
    · exact h.elim
  | bytes m bs =>
    simp only [Seg.setK] at h
    split at h
    · obtain ⟨rfl, h0, h2, hK⟩ := h
      exact ⟨_, hK, fun hd hv => by cases hv; obtain ⟨h1, rfl⟩ := hd.toBytes; exact ⟨.ofBytes (by simp [h1]) (by simp [HL, List.map_set, Bt_ofNatA h0 h2]), rfl⟩⟩
    · exact h.elim
  | bools m bs =>
    simp only [Seg.setK] at h
    split at h
    · exact ⟨_, h, fun hd hv => by cases hv; obtain ⟨h1, rfl⟩ := hd.toBools; exact ⟨.ofBools (by simp [h1]) (by simp [List.map_set]), rfl⟩⟩
    · exact h.elim
  | gen m asx =>
    simp only [Seg.setK] at h
    split at h
    · exact ⟨_, h.2, fun hd hv => by cases hv; obtain ⟨h1, g⟩ := hd.toGen; exact ⟨.ofGen (by simp [h1]) (g.set i (.v _) h.1), h.1⟩⟩
    · exact ⟨_, h, fun hd hv => by cases hv with | row a b c d f => obtain ⟨h1, g⟩ := hd.toGen; exact ⟨.ofGen (by simp [h1]) (g.set i (.row a b c d f) rfl), rfl⟩⟩
    · exact ⟨_, h, fun hd hv => by cases hv with | ref a b => obtain ⟨h1, g⟩ := hd.toGen; exact ⟨.ofGen (by simp [h1]) (g.set i (.ref a b) rfl), rfl⟩⟩
    · exact ⟨_, h, fun hd hv => by cases hv with | sref a b => obtain ⟨h1, g⟩ := hd.toGen; exact ⟨.ofGen (by simp [h1]) (g.set i (.sref a b) rfl), rfl⟩⟩
    · exact ⟨_, h, fun hd hv => by cases hv with | recs a b c d f => obtain ⟨h1, g⟩ := hd.toGen; exact ⟨.ofGen (by simp [h1]) (g.set i (.recs a b c d f) rfl), rfl⟩⟩
    · exact h.elim
theorem oneCells {v : Value} (hv : v.oneCell' = true) : v.cells = #[v] := by cases v <;> first | rfl | cases hv
/-- a cell of a segment that is found, overwritten -/
theorem set_found {l : List Seg} {base rel n : Nat} {a : A} {K : List Seg → Prop} {p : List Seg} {s : Seg} {q : List Seg} {i : Nat} (hc : loc l base = some (p, s, q, i)) (hn : n = 1) (hr : i + rel < s.n) (h : s.setK (i + rel) a fun s' => K (p ++ s' :: q)) :
    ∃ l', K l' ∧ ∀ {S : Nat → Prop} {w : World} {cs : List Value} {v : Value}, RL S w l cs → RA S w a v →
      v.cells.size = n ∧ (∀ u ∈ v.cells.toList, u.oneCell' = true) ∧ (base + rel + n ≤ cs.length ∨ n = 0) ∧ RL S w l' (cs.take (base + rel) ++ (v.cells.toList ++ cs.drop (base + rel + n))) := by
  subst hn
  obtain ⟨s', hK, hs⟩ := setK_uni h
  refine ⟨_, hK, fun {S w cs v} hl hv => ?_⟩
  obtain ⟨c, d, e, rfl, h1, h2, h3, h4, h5, h6⟩ := hl.found hc
  obtain ⟨k1, k2⟩ := hs h2 hv
  rw [oneCells k2]
  refine ⟨rfl, by simpa using k2, .inl (by simp; omega), ?_⟩
  rw [← h4, Nat.add_assoc]
  have := set_mid (c := c) (d := d) (e := e) (i := i + rel) v (by omega)
  rw [show (#[v] : Array Value).toList = [v] from rfl, this]
  have k3 := h1.append (k1.append h3)
  simpa using k3
theorem wrK_spec {l : List Seg} {base n : Nat} {a : A} {K : List Seg → Prop} (h : wrK l base a n K) : ∃ l', K l' ∧ ∀ {S : Nat → Prop} {w : World} {cs : List Value} {v : Value}, RL S w l cs → RA S w a v →
    v.cells.size = n ∧ (∀ u ∈ v.cells.toList, u.oneCell' = true) ∧ (base + n ≤ cs.length ∨ n = 0) ∧ RL S w l' (cs.take base ++ (v.cells.toList ++ cs.drop (base + n))) := by
  have one : ∀ (a : A), (n = 1 ∧ (match loc l base with | some (p, s, q, i) => s.setK i a fun s' => K (p ++ s' :: q) | none => False)) → ∃ l', K l' ∧ ∀ {S : Nat → Prop} {w : World} {cs : List Value} {v : Value}, RL S w l cs → RA S w a v →
      v.cells.size = n ∧ (∀ u ∈ v.cells.toList, u.oneCell' = true) ∧ (base + n ≤ cs.length ∨ n = 0) ∧ RL S w l' (cs.take base ++ (v.cells.toList ++ cs.drop (base + n))) := by
    clear h
    rintro a ⟨hn, h⟩
    cases hc : loc l base with
    | none => rw [hc] at h; exact h.elim
    | some x =>
      obtain ⟨p, s, q, i⟩ := x
      rw [hc] at h
      exact set_found (rel := 0) hc hn (loc_spec hc).2.2 h
  unfold wrK at h
  cases a with
  | agg m =>
    simp only at h
    obtain ⟨rfl, h⟩ := h
    cases hp : put l base m with
    | none => rw [hp] at h; exact h.elim
    | some l' =>
      rw [hp] at h
      refine ⟨_, h, fun hl hv => ?_⟩
      cases hv with
      | agg k =>
        have kl := k.len
        obtain ⟨k1, k2⟩ := hl.put k hp
        refine ⟨by simp [Value.cells, kl], by simpa [Value.cells] using k.one, ?_, by simpa [Value.cells, kl] using k1⟩
        rcases k2 with k2 | k2
        · left; rw [← kl]; exact k2
        · right; rw [← kl, k2]; rfl
  | v x => exact one _ h
  | row m r => exact one _ h
  | ref r o => exact one _ h
  | sref r o => exact one _ h
  | recs m z f => exact one _ h
theorem wriK_spec {l : List Seg} {base rel n : Nat} {a : A} {K : List Seg → Prop} (h : wriK l base rel a n K) : ∃ l', K l' ∧ ∀ {S : Nat → Prop} {w : World} {cs : List Value} {v : Value}, RL S w l cs → RA S w a v →
    v.cells.size = n ∧ (∀ u ∈ v.cells.toList, u.oneCell' = true) ∧ (base + rel + n ≤ cs.length ∨ n = 0) ∧ RL S w l' (cs.take (base + rel) ++ (v.cells.toList ++ cs.drop (base + rel + n))) := by
  unfold wriK at h
  cases hc : loc l base with
  | none => rw [hc] at h; exact h.elim
  | some x =>
    obtain ⟨p, s, q, i⟩ := x
    rw [hc] at h
    simp only at h
    cases a with
    | v x => exact set_found hc h.1 h.2.1 h.2.2
    | row m r => exact set_found hc h.1 h.2.1 h.2.2
    | ref r o => exact set_found hc h.1 h.2.1 h.2.2
    | sref r o => exact set_found hc h.1 h.2.1 h.2.2
    | recs m z f => exact set_found hc h.1 h.2.1 h.2.2
    | agg m =>
      match m, h with
      | [x], h =>
        simp only at h
        obtain ⟨rfl, h1, h⟩ := h
        cases hp : s.over (i + rel) x with
        | none => rw [hp] at h; exact h.elim
        | some s' =>
          rw [hp] at h
          refine ⟨_, h, fun {S w cs v} hl hv => ?_⟩
          obtain ⟨c, d, e, rfl, k1, k2, k3, k4, k5, k6⟩ := hl.found hc
          cases hv with
          | agg k =>
            rename_i ds
            have kl := k.len
            simp only [segN, Nat.add_zero] at kl
            obtain ⟨j1, j2⟩ := k2.over k (i + rel) hp h1
            refine ⟨by simp [Value.cells, kl], by simpa [Value.cells] using k.one, .inl (by simp; omega), ?_⟩
            have j3 := k1.append (j1.append k3)
            have e1 : (c ++ (d ++ e)).take (base + rel) ++ (ds ++ (c ++ (d ++ e)).drop (base + rel + x.n)) = c ++ ((d.take (i + rel) ++ (ds ++ d.drop (i + rel + ds.length))) ++ e) := by
              rw [← k4, List.take_append, List.take_of_length_le (by omega), show c.length + i + rel - c.length = i + rel by omega, List.take_append_of_le_length (by omega),
                List.drop_append, List.drop_of_length_le (by omega), List.nil_append, show c.length + i + rel + x.n - c.length = i + rel + ds.length by omega, List.drop_append_of_le_length (by omega)]
              simp
            have e2 : (Value.agg ds.toArray).cells.toList = ds := by simp [Value.cells]
            rw [e2, e1]
            simpa using j3
      | [], h => exact h.elim
      | _ :: _ :: _, h => exact h.elim
end
end Go.Proofs.Ytcfdlffjghlghaa
