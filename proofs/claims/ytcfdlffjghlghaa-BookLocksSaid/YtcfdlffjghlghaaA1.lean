/-
  Data told without memory: values, segments of cells; how a value in a world reads asx such. No program is named here.
-/
import Derived.Test.YtcfdlffjghlghaaOwn
namespace Go.Proofs.Ytcfdlffjghlghaa
set_option maxRecDepth 100000
open Go.RowKit
set_option linter.unusedVariables false

mutual
/-- a value: plain, a struct or an array, an immutable slice of n elements, an address among immutable cells -/
inductive A where
  | v (x : Value)
  | agg (l : List Seg)
  | row (n : Nat) (l : List Seg)
  | ref (l : List Seg) (off : Nat)
  | sref (l : List Seg) (off : Nat)
  | recs (n sz : Nat) (f : Nat → List Seg)
/-- n cells in a row -/
inductive Seg where
  | ints (k : IntKind) (n : Nat) (zs : List Int)
  | bytes (n : Nat) (bs : List UInt8)
  | bools (n : Nat) (bs : List Bool)
  | gen (n : Nat) (l : List A)
end

def Seg.n : Seg → Nat
  | .ints _ n _ => n
  | .bytes n _ => n
  | .bools n _ => n
  | .gen n _ => n
def segN : List Seg → Nat
  | [] => 0
  | s :: l => s.n + segN l

/-- cells that lie in a row from a on, in a block that S allows -/
def Lies (S : Nat → Prop) (w : World) (a : Option Addr) (cs : List Value) : Prop :=
  cs = [] ∨ ∃ b o, a = some ⟨b, o, none⟩ ∧ S b ∧ b < w.heap.size ∧ ∀ (i : Nat) (h : i < cs.length), w.cell? ⟨b, o + i, none⟩ = some cs[i]

mutual
inductive RA (S : Nat → Prop) (w : World) : A → Value → Prop
  | v (x : Value) : RA S w (.v x) x
  | agg {l : List Seg} {cs : List Value} (h : RL S w l cs) : RA S w (.agg l) (.agg cs.toArray)
  | row {n c : Nat} {l : List Seg} {cs : List Value} {a : Option Addr} (h : RL S w l cs) (h1 : n ≤ c) (h2 : c ≤ maxLen) (h3 : a = none → c = 0) (h4 : Lies S w a cs) : RA S w (.row n l) (.slice a n c)
  | ref {b o off : Nat} {l : List Seg} {cs : List Value} (h : RL S w l cs) (h4 : Lies S w (some ⟨b, o, none⟩) cs) : RA S w (.ref l off) (.pointer (some ⟨b, o + off, none⟩))
  | sref {b o off : Nat} {l : List Seg} {cs : List Value} (h : RL S w l cs) (h4 : Lies S w (some ⟨b, o, none⟩) cs) : RA S w (.sref l off) (.pointer (some ⟨b, o + off, none⟩))
  | recs {n sz c : Nat} {f : Nat → List Seg} {cs : Nat → List Value} {a : Option Addr} (h : ∀ j, j < n → RL S w (f j) (cs j)) (h1 : n ≤ c) (h2 : c ≤ maxLen) (h3 : a = none → c = 0) (h4 : n = 0 ∨ ∃ b o, a = some ⟨b, o, none⟩ ∧ ∀ j, j < n → Lies S w (some ⟨b, o + j * sz, none⟩) (cs j)) : RA S w (.recs n sz f) (.slice a n c)
inductive RL (S : Nat → Prop) (w : World) : List Seg → List Value → Prop
  | nil : RL S w [] []
  | ints {k : IntKind} {n : Nat} {zs : List Int} {l : List Seg} {cs : List Value} (h : zs.length = n) (r : RL S w l cs) : RL S w (.ints k n zs :: l) (zs.map (Value.int k) ++ cs)
  | bytes {n : Nat} {bs : List UInt8} {l : List Seg} {cs : List Value} (h : bs.length = n) (r : RL S w l cs) : RL S w (.bytes n bs :: l) (HL bs ++ cs)
  | bools {n : Nat} {bs : List Bool} {l : List Seg} {cs : List Value} (h : bs.length = n) (r : RL S w l cs) : RL S w (.bools n bs :: l) (bs.map Value.bool ++ cs)
  | gen {n : Nat} {asx : List A} {vs : List Value} {l : List Seg} {cs : List Value} (g : RG S w asx vs) (h : asx.length = n) (r : RL S w l cs) : RL S w (.gen n asx :: l) (vs ++ cs)
inductive RG (S : Nat → Prop) (w : World) : List A → List Value → Prop
  | nil : RG S w [] []
  | cons {a : A} {v : Value} {asx : List A} {vs : List Value} (h : RA S w a v) (h1 : v.oneCell' = true) (r : RG S w asx vs) : RG S w (a :: asx) (v :: vs)
end

/-- what S allows in w stays in w', and S' allows it there -/
def Keeps (S : Nat → Prop) (w : World) (S' : Nat → Prop) (w' : World) : Prop :=
  w.heap.size ≤ w'.heap.size ∧ ∀ b, b < w.heap.size → S b → S' b ∧ ∀ o, w'.cell? ⟨b, o, none⟩ = w.cell? ⟨b, o, none⟩

theorem Lies.up {S S' : Nat → Prop} {w w' : World} {a : Option Addr} {cs : List Value} (k : Keeps S w S' w') (h : Lies S w a cs) : Lies S' w' a cs := by
  rcases h with h | ⟨b, o, h1, h2, h3, h4⟩
  · exact .inl h
  · exact .inr ⟨b, o, h1, (k.2 b h3 h2).1, Nat.lt_of_lt_of_le h3 k.1, fun i hi => ((k.2 b h3 h2).2 _).trans (h4 i hi)⟩

section
variable {S S' : Nat → Prop} {w w' : World}
mutual
theorem RA.up (k : Keeps S w S' w') : ∀ {a : A} {v : Value}, RA S w a v → RA S' w' a v
  | _, _, .v x => .v x
  | _, _, .agg h => .agg (h.up k)
  | _, _, .row h h1 h2 h3 h4 => .row (h.up k) h1 h2 h3 (h4.up k)
  | _, _, .ref h h4 => .ref (h.up k) (h4.up k)
  | _, _, .sref h h4 => .sref (h.up k) (h4.up k)
  | _, _, .recs h h1 h2 h3 h4 => .recs (fun j hj => (h j hj).up k) h1 h2 h3 (h4.imp id fun ⟨b, o, e, h⟩ => ⟨b, o, e, fun j hj => (h j hj).up k⟩)
theorem RL.up (k : Keeps S w S' w') : ∀ {l : List Seg} {cs : List Value}, RL S w l cs → RL S' w' l cs
  | _, _, .nil => .nil
  | _, _, .ints h r => .ints h (r.up k)
  | _, _, .bytes h r => .bytes h (r.up k)
  | _, _, .bools h r => .bools h (r.up k)
  | _, _, .gen g h r => .gen (g.up k) h (r.up k)
theorem RG.up (k : Keeps S w S' w') : ∀ {l : List A} {cs : List Value}, RG S w l cs → RG S' w' l cs
  | _, _, .nil => .nil
  | _, _, .cons h h1 r => .cons (h.up k) h1 (r.up k)
end

theorem RG.len : ∀ {l : List A} {cs : List Value}, RG S w l cs → cs.length = l.length
  | _, _, .nil => rfl
  | _, _, .cons _ _ r => by simp [r.len]
theorem RL.len : ∀ {l : List Seg} {cs : List Value}, RL S w l cs → cs.length = segN l
  | _, _, .nil => rfl
  | _, _, .ints h r => by simp [segN, Seg.n, h, r.len]
  | _, _, .bytes h r => by simp [segN, Seg.n, h, r.len, HL_length]
  | _, _, .bools h r => by simp [segN, Seg.n, h, r.len]
  | _, _, .gen g h r => by simp [segN, Seg.n, h, r.len, g.len]
theorem RG.one : ∀ {l : List A} {cs : List Value}, RG S w l cs → ∀ v ∈ cs, v.oneCell' = true
  | _, _, .nil => by simp
  | _, _, .cons _ h1 r => fun v hv => by rcases List.mem_cons.1 hv with rfl | hv; exact h1; exact r.one v hv
theorem RL.one : ∀ {l : List Seg} {cs : List Value}, RL S w l cs → ∀ v ∈ cs, v.oneCell' = true
  | _, _, .nil => by simp
  | _, _, .ints h r => fun v hv => by
    rcases List.mem_append.1 hv with hv | hv
    · obtain ⟨z, _, rfl⟩ := List.mem_map.1 hv; rfl
    · exact r.one v hv
  | _, _, .bytes h r => fun v hv => by
    rcases List.mem_append.1 hv with hv | hv
    · exact HL_one _ v hv
    · exact r.one v hv
  | _, _, .bools h r => fun v hv => by
    rcases List.mem_append.1 hv with hv | hv
    · obtain ⟨z, _, rfl⟩ := List.mem_map.1 hv; rfl
    · exact r.one v hv
  | _, _, .gen g h r => fun v hv => by
    rcases List.mem_append.1 hv with hv | hv
    · exact g.one v hv
    · exact r.one v hv

theorem RL.append : ∀ {l m : List Seg} {cs ds : List Value}, RL S w l cs → RL S w m ds → RL S w (l ++ m) (cs ++ ds)
  | _, _, _, _, .nil, k => k
  | _, _, _, _, .ints h r, k => by rw [List.append_assoc]; exact .ints h (r.append k)
  | _, _, _, _, .bytes h r, k => by rw [List.append_assoc]; exact .bytes h (r.append k)
  | _, _, _, _, .bools h r, k => by rw [List.append_assoc]; exact .bools h (r.append k)
  | _, _, _, _, .gen g h r, k => by rw [List.append_assoc]; exact .gen g h (r.append k)
/-- the first segment apart -/
theorem RL.head {s : Seg} {l : List Seg} {cs : List Value} (h : RL S w (s :: l) cs) : ∃ c d, cs = c ++ d ∧ RL S w [s] c ∧ RL S w l d ∧ c.length = s.n := by
  have go : ∃ c d, cs = c ++ d ∧ RL S w [s] c ∧ RL S w l d := by
    cases h with
    | ints h r => exact ⟨_, _, rfl, by have := RL.ints (k := ‹_›) h (RL.nil (S := S) (w := w)); rwa [List.append_nil] at this, r⟩
    | bytes h r => exact ⟨_, _, rfl, by have := RL.bytes h (RL.nil (S := S) (w := w)); rwa [List.append_nil] at this, r⟩
    | bools h r => exact ⟨_, _, rfl, by have := RL.bools h (RL.nil (S := S) (w := w)); rwa [List.append_nil] at this, r⟩
    | gen g h r => exact ⟨_, _, rfl, by have := RL.gen g h (RL.nil (S := S) (w := w)); rwa [List.append_nil] at this, r⟩
  obtain ⟨c, d, h1, h2, h3⟩ := go
  exact ⟨c, d, h1, h2, h3, by have := h2.len; simpa [segN] using this⟩
theorem RL.nil_inv {cs : List Value} (h : RL S w [] cs) : cs = [] := by cases h; rfl

/-! parts -/
/-- n cells of a segment, from off on -/
def Seg.sub (s : Seg) (off n : Nat) : Seg :=
  match s with
  | .ints k _ zs => .ints k n ((zs.drop off).take n)
  | .bytes _ bs => .bytes n ((bs.drop off).take n)
  | .bools _ bs => .bools n ((bs.drop off).take n)
  | .gen _ l => .gen n ((l.drop off).take n)
/-- one cell of a segment -/
def Seg.cell (s : Seg) (i : Nat) : A :=
  match s with
  | .ints k _ zs => .v (.int k (zs.getD i 0))
  | .bytes _ bs => .v (.int .u8 (Bt (bs.getD i 0)))
  | .bools _ bs => .v (.bool (bs.getD i false))
  | .gen _ l => l.getD i (.v undef)

theorem RG.sub : ∀ {l : List A} {cs : List Value}, RG S w l cs → ∀ (off n : Nat), RG S w ((l.drop off).take n) ((cs.drop off).take n)
  | _, _, .nil, off, n => by simp; exact .nil
  | _, _, .cons h h1 r, 0, 0 => by simp; exact .nil
  | _, _, .cons h h1 r, 0, n + 1 => by simpa using .cons h h1 (by simpa using r.sub 0 n)
  | _, _, .cons h h1 r, off + 1, n => by simpa using r.sub off n
theorem RG.at : ∀ {l : List A} {cs : List Value}, RG S w l cs → ∀ (i : Nat), i < l.length → ∃ v, cs[i]? = some v ∧ RA S w (l.getD i (.v undef)) v ∧ v.oneCell' = true
  | _, _, .nil, i, h => by simp at h
  | _, _, .cons h h1 r, 0, _ => ⟨_, rfl, h, h1⟩
  | _, _, .cons h h1 r, i + 1, hi => by
    obtain ⟨v, k1, k2, k3⟩ := r.at i (by simpa using hi)
    exact ⟨v, by simpa using k1, by simpa using k2, k3⟩

theorem RL.ofInts {k : IntKind} {n : Nat} {zs : List Int} {cs : List Value} (h : zs.length = n) (e : cs = zs.map (Value.int k)) : RL S w [.ints k n zs] cs := by
  subst e; have := RL.ints (k := k) h (RL.nil (S := S) (w := w)); rwa [List.append_nil] at this
theorem RL.ofBytes {n : Nat} {bs : List UInt8} {cs : List Value} (h : bs.length = n) (e : cs = HL bs) : RL S w [.bytes n bs] cs := by
  subst e; have := RL.bytes h (RL.nil (S := S) (w := w)); rwa [List.append_nil] at this
theorem RL.ofBools {n : Nat} {bs : List Bool} {cs : List Value} (h : bs.length = n) (e : cs = bs.map Value.bool) : RL S w [.bools n bs] cs := by
  subst e; have := RL.bools h (RL.nil (S := S) (w := w)); rwa [List.append_nil] at this
theorem RL.ofGen {n : Nat} {asx : List A} {cs : List Value} (h : asx.length = n) (g : RG S w asx cs) : RL S w [.gen n asx] cs := by
  have := RL.gen g h (RL.nil (S := S) (w := w)); rwa [List.append_nil] at this
theorem RL.toInts {k : IntKind} {n : Nat} {zs : List Int} {cs : List Value} (h : RL S w [.ints k n zs] cs) : zs.length = n ∧ cs = zs.map (Value.int k) := by
  cases h with | ints h r => cases r; exact ⟨h, by simp⟩
theorem RL.toBytes {n : Nat} {bs : List UInt8} {cs : List Value} (h : RL S w [.bytes n bs] cs) : bs.length = n ∧ cs = HL bs := by
  cases h with | bytes h r => cases r; exact ⟨h, by simp⟩
theorem RL.toBools {n : Nat} {bs : List Bool} {cs : List Value} (h : RL S w [.bools n bs] cs) : bs.length = n ∧ cs = bs.map Value.bool := by
  cases h with | bools h r => cases r; exact ⟨h, by simp⟩
theorem RL.toGen {n : Nat} {asx : List A} {cs : List Value} (h : RL S w [.gen n asx] cs) : asx.length = n ∧ RG S w asx cs := by
  cases h with | gen g h r => cases r; exact ⟨h, by simpa using g⟩

theorem RL.sub {s : Seg} {cs : List Value} (h : RL S w [s] cs) (off n : Nat) (hn : off + n ≤ s.n) : RL S w [s.sub off n] ((cs.drop off).take n) := by
  cases s with
  | ints k m zs =>
    obtain ⟨h1, rfl⟩ := h.toInts
    exact .ofInts (by simp [Seg.n] at hn ⊢; omega) (by simp [List.map_take, List.map_drop])
  | bytes m bs =>
    obtain ⟨h1, rfl⟩ := h.toBytes
    exact .ofBytes (by simp [Seg.n] at hn ⊢; omega) (by simp [HL, List.map_take, List.map_drop])
  | bools m bs =>
    obtain ⟨h1, rfl⟩ := h.toBools
    exact .ofBools (by simp [Seg.n] at hn ⊢; omega) (by simp [List.map_take, List.map_drop])
  | gen m asx =>
    obtain ⟨h1, g⟩ := h.toGen
    exact .ofGen (by simp [Seg.n] at hn ⊢; omega) (g.sub off n)
theorem RL.cell {s : Seg} {cs : List Value} (h : RL S w [s] cs) (i : Nat) (hi : i < s.n) : ∃ v, cs[i]? = some v ∧ RA S w (s.cell i) v ∧ v.oneCell' = true := by
  cases s with
  | ints k m zs =>
    obtain ⟨h1, rfl⟩ := h.toInts
    have : i < zs.length := by simpa [Seg.n, h1] using hi
    exact ⟨.int k (zs.getD i 0), by simp [this], .v _, rfl⟩
  | bytes m bs =>
    obtain ⟨h1, rfl⟩ := h.toBytes
    have : i < bs.length := by simpa [Seg.n, h1] using hi
    exact ⟨.int .u8 (Bt (bs.getD i 0)), by simp [HL, this], .v _, rfl⟩
  | bools m bs =>
    obtain ⟨h1, rfl⟩ := h.toBools
    have : i < bs.length := by simpa [Seg.n, h1] using hi
    exact ⟨.bool (bs.getD i false), by simp [this], .v _, rfl⟩
  | gen m asx =>
    obtain ⟨h1, g⟩ := h.toGen
    exact g.at i (by simpa [Seg.n, h1] using hi)

/-- the segment in which cell b lies: those ahead, it, those behind, how far into it -/
def loc : List Seg → Nat → Option (List Seg × Seg × List Seg × Nat)
  | [], _ => none
  | s :: l, b => if b < s.n then some ([], s, l, b) else (loc l (b - s.n)).map fun p => (s :: p.1, p.2.1, p.2.2.1, p.2.2.2)
theorem loc_spec : ∀ {l : List Seg} {b : Nat} {p : List Seg} {s : Seg} {q : List Seg} {i : Nat}, loc l b = some (p, s, q, i) → l = p ++ s :: q ∧ b = segN p + i ∧ i < s.n
  | [], _, _, _, _, _, h => by cases h
  | s :: l, b, p, s', q, i, h => by
    unfold loc at h
    by_cases hb : b < s.n
    · rw [if_pos hb] at h
      cases h
      exact ⟨rfl, by simp [segN], hb⟩
    · rw [if_neg hb] at h
      cases hl : loc l (b - s.n) with
      | none => rw [hl] at h; cases h
      | some x =>
        rw [hl] at h
        obtain ⟨p', s2, q2, i2⟩ := x
        simp only [Option.map_some, Option.some.injEq, Prod.mk.injEq] at h
        obtain ⟨rfl, rfl, rfl, rfl⟩ := h
        obtain ⟨k1, k2, k3⟩ := loc_spec hl
        exact ⟨by rw [k1]; rfl, by simp [segN]; omega, k3⟩
theorem RL.split : ∀ {p l : List Seg} {cs : List Value}, RL S w (p ++ l) cs → ∃ c d, cs = c ++ d ∧ RL S w p c ∧ RL S w l d
  | [], _, cs, h => ⟨[], cs, rfl, .nil, h⟩
  | s :: p, l, cs, h => by
    obtain ⟨c, d, rfl, h1, h2, _⟩ := RL.head (l := p ++ l) h
    obtain ⟨c2, d2, rfl, h3, h4⟩ := h2.split
    exact ⟨c ++ c2, d2, by rw [List.append_assoc], by simpa using h1.append h3, h4⟩
/-- cells of one segment that is found -/
theorem RL.found {l : List Seg} {cs : List Value} (h : RL S w l cs) {b : Nat} {p : List Seg} {s : Seg} {q : List Seg} {i : Nat} (hl : loc l b = some (p, s, q, i)) :
    ∃ c d e, cs = c ++ (d ++ e) ∧ RL S w p c ∧ RL S w [s] d ∧ RL S w q e ∧ c.length + i = b ∧ i < s.n ∧ d.length = s.n := by
  obtain ⟨rfl, rfl, h3⟩ := loc_spec hl
  obtain ⟨c, d, rfl, h4, h5⟩ := h.split
  obtain ⟨d, e, rfl, h6, h7, h8⟩ := h5.head
  exact ⟨c, d, e, rfl, h4, h6, h7, by rw [h4.len], h3, h8⟩

/-- n cells from off on, asx segments -/
def cut : List Seg → Nat → Nat → Option (List Seg)
  | [], off, n => if n = 0 then some [] else none
  | s :: l, off, n =>
    if n = 0 then some [] else if s.n ≤ off then cut l (off - s.n) n else
    if off + n ≤ s.n then (if off = 0 ∧ n = s.n then some [s] else some [s.sub off n]) else if off = 0 then (cut l 0 (n - s.n)).map (s :: ·) else (cut l 0 (off + n - s.n)).map (s.sub off (s.n - off) :: ·)
theorem RL.cut : ∀ {l : List Seg} {cs : List Value} {off n : Nat} {m : List Seg}, RL S w l cs → cut l off n = some m → RL S w m ((cs.drop off).take n) ∧ (off + n ≤ cs.length ∨ n = 0)
  | [], cs, off, n, m, h, e => by
    unfold Go.Proofs.Ytcfdlffjghlghaa.cut at e
    by_cases hn : n = 0
    · rw [if_pos hn] at e; cases e; subst hn; simp; exact .nil
    · rw [if_neg hn] at e; cases e
  | s :: l, cs, off, n, m, h, e => by
    unfold Go.Proofs.Ytcfdlffjghlghaa.cut at e
    by_cases hn : n = 0
    · rw [if_pos hn] at e; cases e; subst hn; simp; exact .nil
    rw [if_neg hn] at e
    obtain ⟨c, d, rfl, h1, h2, h3⟩ := h.head
    by_cases ho : s.n ≤ off
    · rw [if_pos ho] at e
      obtain ⟨k1, k2⟩ := h2.cut e
      refine ⟨?_, by rcases k2 with k2 | k2; left; simp; omega; exact .inr k2⟩
      rw [List.drop_append, List.drop_of_length_le (by omega), List.nil_append, h3]; exact k1
    rw [if_neg ho] at e
    by_cases ha : off + n ≤ s.n
    · rw [if_pos ha] at e
      have hx : ((c ++ d).drop off).take n = (c.drop off).take n := by
        rw [List.drop_append_of_le_length (by omega), List.take_append_of_le_length (by simp; omega)]
      rw [hx]
      refine ⟨?_, .inl (by simp; omega)⟩
      by_cases hz : off = 0 ∧ n = s.n
      · rw [if_pos hz] at e; cases e
        obtain ⟨rfl, rfl⟩ := hz
        rw [List.drop_zero, List.take_of_length_le (by omega)]; exact h1
      · rw [if_neg hz] at e; cases e
        exact h1.sub off n ha
    rw [if_neg ha] at e
    have key : ∀ (m' : List Seg), Go.Proofs.Ytcfdlffjghlghaa.cut l 0 (off + n - s.n) = some m' → RL S w m' (d.take (off + n - s.n)) ∧ off + n ≤ (c ++ d).length := by
      intro m' he
      obtain ⟨k1, k2⟩ := h2.cut he
      refine ⟨by simpa using k1, ?_⟩
      rcases k2 with k2 | k2
      · simp; omega
      · omega
    have hx : ((c ++ d).drop off).take n = c.drop off ++ d.take (off + n - s.n) := by
      rw [List.drop_append_of_le_length (by omega), List.take_append, List.take_of_length_le (by simp; omega)]
      congr 2
      simp; omega
    rw [hx]
    by_cases hz : off = 0
    · rw [if_pos hz] at e
      subst hz
      cases hq : Go.Proofs.Ytcfdlffjghlghaa.cut l 0 (n - s.n) with
      | none => rw [hq] at e; cases e
      | some m' =>
        rw [hq] at e
        cases e
        obtain ⟨k1, k2⟩ := key m' (by rw [Nat.zero_add]; exact hq)
        exact ⟨by simpa using h1.append k1, .inl k2⟩
    · rw [if_neg hz] at e
      cases hq : Go.Proofs.Ytcfdlffjghlghaa.cut l 0 (off + n - s.n) with
      | none => rw [hq] at e; cases e
      | some m' =>
        rw [hq] at e
        cases e
        obtain ⟨k1, k2⟩ := key m' hq
        refine ⟨?_, .inl k2⟩
        have h4 := h1.sub off (s.n - off) (by omega)
        rw [List.take_of_length_le (by simp; omega)] at h4
        simpa using h4.append k1
end
end Go.Proofs.Ytcfdlffjghlghaa
