/-
  Data told without memory: values, segments of cells; how a value in a world reads asx such. No program is named here.
-/
import Derived.Test.YtanpamcecaoanaaHBase
import Derived.Maps.AppendAt
import Derived.Laws.CopyRow
import Derived.ChangeKeysEq
import Derived.Laws.Slices
import Derived.Laws.AppendOwn
import Derived.Lib.SliceRun
import Derived.Lib.ConvBytes
namespace Go.Proofs.Ytanpamcecaoanaa
set_option maxRecDepth 100000
open Go.RowKit
set_option linter.unusedVariables false

mutual
/-- a value: plain, a struct or an array, an immutable slice of n elements, an address among immutable cells -/
inductive A where
  | v (x : Value)
  | agg (l : List Seg)
  | row (n : Nat) (l : List Seg)
  | ref (l : List Seg) (off : Nat)
  | sref (l : List Seg) (off : Nat)
  | recs (n sz : Nat) (f : Nat → List Seg)
  | clo (f : FuncId) (l : List A)
/-- n cells in a row -/
inductive Seg where
  | ints (k : IntKind) (n : Nat) (zs : List Int)
  | bytes (n : Nat) (bs : List UInt8)
  | bools (n : Nat) (bs : List Bool)
  | gen (n : Nat) (l : List A)
end

def Seg.n : Seg → Nat
  | .ints _ n _ => n
  | .bytes n _ => n
  | .bools n _ => n
  | .gen n _ => n
def segN : List Seg → Nat
  | [] => 0
  | s :: l => s.n + segN l

/-- cells that lie in a row from a on, in a block that S allows -/
def Lies (S : Nat → Prop) (w : World) (a : Option Addr) (cs : List Value) : Prop :=
  cs = [] ∨ ∃ b o, a = some ⟨b, o, none⟩ ∧ S b ∧ b < w.heap.size ∧ ∀ (i : Nat) (h : i < cs.length), w.cell? ⟨b, o + i, none⟩ = some cs[i]

mutual
inductive RA (S : Nat → Prop) (w : World) : A → Value → Prop
  | v (x : Value) : RA S w (.v x) x
  | agg {l : List Seg} {cs : List Value} (h : RL S w l cs) : RA S w (.agg l) (.agg cs.toArray)
  | row {n c : Nat} {l : List Seg} {cs : List Value} {a : Option Addr} (h : RL S w l cs) (h1 : n ≤ c) (h2 : c ≤ maxLen) (h3 : a = none → c = 0) (h4 : Lies S w a cs) : RA S w (.row n l) (.slice a n c)
  | ref {b o off : Nat} {l : List Seg} {cs : List Value} (h : RL S w l cs) (h4 : Lies S w (some ⟨b, o, none⟩) cs) : RA S w (.ref l off) (.pointer (some ⟨b, o + off, none⟩))
  | sref {b o off : Nat} {l : List Seg} {cs : List Value} (h : RL S w l cs) (h4 : Lies S w (some ⟨b, o, none⟩) cs) : RA S w (.sref l off) (.pointer (some ⟨b, o + off, none⟩))
  | recs {n sz c : Nat} {f : Nat → List Seg} {cs : Nat → List Value} {a : Option Addr} (h : ∀ j, j < n → RL S w (f j) (cs j)) (h1 : n ≤ c) (h2 : c ≤ maxLen) (h3 : a = none → c = 0) (h4 : n = 0 ∨ ∃ b o, a = some ⟨b, o, none⟩ ∧ ∀ j, j < n → Lies S w (some ⟨b, o + j * sz, none⟩) (cs j)) : RA S w (.recs n sz f) (.slice a n c)
  | clo {f : FuncId} {l : List A} {vs : List Value} (h : RG S w l vs) : RA S w (.clo f l) (.func (.func f) #[] vs.toArray)
inductive RL (S : Nat → Prop) (w : World) : List Seg → List Value → Prop
  | nil : RL S w [] []
  | ints {k : IntKind} {n : Nat} {zs : List Int} {l : List Seg} {cs : List Value} (h : zs.length = n) (r : RL S w l cs) : RL S w (.ints k n zs :: l) (zs.map (Value.int k) ++ cs)
  | bytes {n : Nat} {bs : List UInt8} {l : List Seg} {cs : List Value} (h : bs.length = n) (r : RL S w l cs) : RL S w (.bytes n bs :: l) (HL bs ++ cs)
  | bools {n : Nat} {bs : List Bool} {l : List Seg} {cs : List Value} (h : bs.length = n) (r : RL S w l cs) : RL S w (.bools n bs :: l) (bs.map Value.bool ++ cs)
  | gen {n : Nat} {asx : List A} {vs : List Value} {l : List Seg} {cs : List Value} (g : RG S w asx vs) (h : asx.length = n) (r : RL S w l cs) : RL S w (.gen n asx :: l) (vs ++ cs)
inductive RG (S : Nat → Prop) (w : World) : List A → List Value → Prop
  | nil : RG S w [] []
  | cons {a : A} {v : Value} {asx : List A} {vs : List Value} (h : RA S w a v) (h1 : v.oneCell' = true) (r : RG S w asx vs) : RG S w (a :: asx) (v :: vs)
end

/-- what S allows in w stays in w', and S' allows it there -/
def Keeps (S : Nat → Prop) (w : World) (S' : Nat → Prop) (w' : World) : Prop :=
  w.heap.size ≤ w'.heap.size ∧ ∀ b, b < w.heap.size → S b → S' b ∧ ∀ o, w'.cell? ⟨b, o, none⟩ = w.cell? ⟨b, o, none⟩

theorem Lies.up {S S' : Nat → Prop} {w w' : World} {a : Option Addr} {cs : List Value} (k : Keeps S w S' w') (h : Lies S w a cs) : Lies S' w' a cs := by
  rcases h with h | ⟨b, o, h1, h2, h3, h4⟩
  · exact .inl h
  · exact .inr ⟨b, o, h1, (k.2 b h3 h2).1, Nat.lt_of_lt_of_le h3 k.1, fun i hi => ((k.2 b h3 h2).2 _).trans (h4 i hi)⟩

section
variable {S S' : Nat → Prop} {w w' : World}
mutual
theorem RA.up (k : Keeps S w S' w') : ∀ {a : A} {v : Value}, RA S w a v → RA S' w' a v
  | _, _, .v x => .v x
  | _, _, .agg h => .agg (h.up k)
  | _, _, .row h h1 h2 h3 h4 => .row (h.up k) h1 h2 h3 (h4.up k)
  | _, _, .ref h h4 => .ref (h.up k) (h4.up k)
  | _, _, .sref h h4 => .sref (h.up k) (h4.up k)
  | _, _, .recs h h1 h2 h3 h4 => .recs (fun j hj => (h j hj).up k) h1 h2 h3 (h4.imp id fun ⟨b, o, e, h⟩ => ⟨b, o, e, fun j hj => (h j hj).up k⟩)
  | _, _, .clo h => .clo (h.up k)
theorem RL.up (k : Keeps S w S' w') : ∀ {l : List Seg} {cs : List Value}, RL S w l cs → RL S' w' l cs
  | _, _, .nil => .nil
  | _, _, .ints h r => .ints h (r.up k)
  | _, _, .bytes h r => .bytes h (r.up k)
  | _, _, .bools h r => .bools h (r.up k)
  | _, _, .gen g h r => .gen (g.up k) h (r.up k)
theorem RG.up (k : Keeps S w S' w') : ∀ {l : List A} {cs : List Value}, RG S w l cs → RG S' w' l cs
  | _, _, .nil => .nil
  | _, _, .cons h h1 r => .cons (h.up k) h1 (r.up k)
end

theorem RG.len : ∀ {l : List A} {cs : List Value}, RG S w l cs → cs.length = l.length
  | _, _, .nil => rfl
  | _, _, .cons _ _ r => by simp [r.len]
theorem RL.len : ∀ {l : List Seg} {cs : List Value}, RL S w l cs → cs.length = segN l
  | _, _, .nil => rfl
  | _, _, .ints h r => by simp [segN, Seg.n, h, r.len]
  | _, _, .bytes h r => by simp [segN, Seg.n, h, r.len, HL_length]
  | _, _, .bools h r => by simp [segN, Seg.n, h, r.len]
  | _, _, .gen g h r => by simp [segN, Seg.n, h, r.len, g.len]
theorem RG.one : ∀ {l : List A} {cs : List Value}, RG S w l cs → ∀ v ∈ cs, v.oneCell' = true
  | _, _, .nil => by simp
  | _, _, .cons _ h1 r => fun v hv => by rcases List.mem_cons.1 hv with rfl | hv; exact h1; exact r.one v hv
theorem RL.one : ∀ {l : List Seg} {cs : List Value}, RL S w l cs → ∀ v ∈ cs, v.oneCell' = true
  | _, _, .nil => by simp
  | _, _, .ints h r => fun v hv => by
    rcases List.mem_append.1 hv with hv | hv
    · obtain ⟨z, _, rfl⟩ := List.mem_map.1 hv; rfl
    · exact r.one v hv
  | _, _, .bytes h r => fun v hv => by
    rcases List.mem_append.1 hv with hv | hv
    · exact HL_one _ v hv
    · exact r.one v hv
  | _, _, .bools h r => fun v hv => by
    rcases List.mem_append.1 hv with hv | hv
    · obtain ⟨z, _, rfl⟩ := List.mem_map.1 hv; rfl
    · exact r.one v hv
  | _, _, .gen g h r => fun v hv => by
    rcases List.mem_append.1 hv with hv | hv
    · exact g.one v hv
    · exact r.one v hv

theorem RL.append : ∀ {l m : List Seg} {cs ds : List Value}, RL S w l cs → RL S w m ds → RL S w (l ++ m) (cs ++ ds)
  | _, _, _, _, .nil, k => k
  | _, _, _, _, .ints h r, k => by rw [List.append_assoc]; exact .ints h (r.append k)
  | _, _, _, _, .bytes h r, k => by rw [List.append_assoc]; exact .bytes h (r.append k)
  | _, _, _, _, .bools h r, k => by rw [List.append_assoc]; exact .bools h (r.append k)
  | _, _, _, _, .gen g h r, k => by rw [List.append_assoc]; exact .gen g h (r.append k)
/-- the first segment apart -/
theorem RL.head {s : Seg} {l : List Seg} {cs : List Value} (h : RL S w (s :: l) cs) : ∃ c d, cs = c ++ d ∧ RL S w [s] c ∧ RL S w l d ∧ c.length = s.n := by
  have go : ∃ c d, cs = c ++ d ∧ RL S w [s] c ∧ RL S w l d := by
    cases h with
    | ints h r => exact ⟨_, _, rfl, by have := RL.ints (k := ‹_›) h (RL.nil (S := S) (w := w)); rwa [List.append_nil] at this, r⟩
    | bytes h r => exact ⟨_, _, rfl, by have := RL.bytes h (RL.nil (S := S) (w := w)); rwa [List.append_nil] at this, r⟩
    | bools h r => exact ⟨_, _, rfl, by have := RL.bools h (RL.nil (S := S) (w := w)); rwa [List.append_nil] at this, r⟩
    | gen g h r => exact ⟨_, _, rfl, by have := RL.gen g h (RL.nil (S := S) (w := w)); rwa [List.append_nil] at this, r⟩
  obtain ⟨c, d, h1, h2, h3⟩ := go
  exact ⟨c, d, h1, h2, h3, by have := h2.len; simpa [segN] using this⟩
theorem RL.nil_inv {cs : List Value} (h : RL S w [] cs) : cs = [] := by cases h; rfl

/-! parts -/
/-- n cells of a segment, from off on -/
def Seg.sub (s : Seg) (off n : Nat) : Seg :=
  match s with
  | .ints k _ zs => .ints k n ((zs.drop off).take n)
  | .bytes _ bs => .bytes n ((bs.drop off).take n)
  | .bools _ bs => .bools n ((bs.drop off).take n)
  | .gen _ l => .gen n ((l.drop off).take n)
/-- one cell of a segment -/
def Seg.cell (s : Seg) (i : Nat) : A :=
  match s with
  | .ints k _ zs => .v (.int k (zs.getD i 0))
  | .bytes _ bs => .v (.int .u8 (Bt (bs.getD i 0)))
  | .bools _ bs => .v (.bool (bs.getD i false))
  | .gen _ l => l.getD i (.v undef)

theorem RG.sub : ∀ {l : List A} {cs : List Value}, RG S w l cs → ∀ (off n : Nat), RG S w ((l.drop off).take n) ((cs.drop off).take n)
  | _, _, .nil, off, n => by simp; exact .nil
  | _, _, .cons h h1 r, 0, 0 => by simp; exact .nil
  | _, _, .cons h h1 r, 0, n + 1 => by simpa using .cons h h1 (by simpa using r.sub 0 n)
  | _, _, .cons h h1 r, off + 1, n => by simpa using r.sub off n
theorem RG.at : ∀ {l : List A} {cs : List Value}, RG S w l cs → ∀ (i : Nat), i < l.length → ∃ v, cs[i]? = some v ∧ RA S w (l.getD i (.v undef)) v ∧ v.oneCell' = true
  | _, _, .nil, i, h => by simp at h
  | _, _, .cons h h1 r, 0, _ => ⟨_, rfl, h, h1⟩
  | _, _, .cons h h1 r, i + 1, hi => by
    obtain ⟨v, k1, k2, k3⟩ := r.at i (by simpa using hi)
    exact ⟨v, by simpa using k1, by simpa using k2, k3⟩

theorem RL.ofInts {k : IntKind} {n : Nat} {zs : List Int} {cs : List Value} (h : zs.length = n) (e : cs = zs.map (Value.int k)) : RL S w [.ints k n zs] cs := by
  subst e; have := RL.ints (k := k) h (RL.nil (S := S) (w := w)); rwa [List.append_nil] at this
theorem RL.ofBytes {n : Nat} {bs : List UInt8} {cs : List Value} (h : bs.length = n) (e : cs = HL bs) : RL S w [.bytes n bs] cs := by
  subst e; have := RL.bytes h (RL.nil (S := S) (w := w)); rwa [List.append_nil] at this
theorem RL.ofBools {n : Nat} {bs : List Bool} {cs : List Value} (h : bs.length = n) (e : cs = bs.map Value.bool) : RL S w [.bools n bs] cs := by
  subst e; have := RL.bools h (RL.nil (S := S) (w := w)); rwa [List.append_nil] at this
theorem RL.ofGen {n : Nat} {asx : List A} {cs : List Value} (h : asx.length = n) (g : RG S w asx cs) : RL S w [.gen n asx] cs := by
  have := RL.gen g h (RL.nil (S := S) (w := w)); rwa [List.append_nil] at this
theorem RL.toInts {k : IntKind} {n : Nat} {zs : List Int} {cs : List Value} (h : RL S w [.ints k n zs] cs) : zs.length = n ∧ cs = zs.map (Value.int k) := by
  cases h with | ints h r => cases r; exact ⟨h, by simp⟩
theorem RL.toBytes {n : Nat} {bs : List UInt8} {cs : List Value} (h : RL S w [.bytes n bs] cs) : bs.length = n ∧ cs = HL bs := by
  cases h with | bytes h r => cases r; exact ⟨h, by simp⟩
theorem RL.toBools {n : Nat} {bs : List Bool} {cs : List Value} (h : RL S w [.bools n bs] cs) : bs.length = n ∧ cs = bs.map Value.bool := by
  cases h with | bools h r => cases r; exact ⟨h, by simp⟩
theorem RL.toGen {n : Nat} {asx : List A} {cs : List Value} (h : RL S w [.gen n asx] cs) : asx.length = n ∧ RG S w asx cs := by
  cases h with | gen g h r => cases r; exact ⟨h, by simpa using g⟩

theorem RL.sub {s : Seg} {cs : List Value} (h : RL S w [s] cs) (off n : Nat) (hn : off + n ≤ s.n) : RL S w [s.sub off n] ((cs.drop off).take n) := by
  cases s with
  | ints k m zs =>
    obtain ⟨h1, rfl⟩ := h.toInts
    exact .ofInts (by simp [Seg.n] at hn ⊢; omega) (by simp [List.map_take, List.map_drop])
  | bytes m bs =>
    obtain ⟨h1, rfl⟩ := h.toBytes
    exact .ofBytes (by simp [Seg.n] at hn ⊢; omega) (by simp [HL, List.map_take, List.map_drop])
  | bools m bs =>
    obtain ⟨h1, rfl⟩ := h.toBools
    exact .ofBools (by simp [Seg.n] at hn ⊢; omega) (by simp [List.map_take, List.map_drop])
  | gen m asx =>
    obtain ⟨h1, g⟩ := h.toGen
    exact .ofGen (by simp [Seg.n] at hn ⊢; omega) (g.sub off n)
theorem RL.cell {s : Seg} {cs : List Value} (h : RL S w [s] cs) (i : Nat) (hi : i < s.n) : ∃ v, cs[i]? = some v ∧ RA S w (s.cell i) v ∧ v.oneCell' = true := by
  cases s with
  | ints k m zs =>
    obtain ⟨h1, rfl⟩ := h.toInts
    have : i < zs.length := by simpa [Seg.n, h1] using hi
    exact ⟨.int k (zs.getD i 0), by simp [this], .v _, rfl⟩
  | bytes m bs =>
    obtain ⟨h1, rfl⟩ := h.toBytes
    have : i < bs.length := by simpa [Seg.n, h1] using hi
    exact ⟨.int .u8 (Bt (bs.getD i 0)), by simp [HL, this], .v _, rfl⟩
  | bools m bs =>
    obtain ⟨h1, rfl⟩ := h.toBools
    have : i < bs.length := by simpa [Seg.n, h1] using hi
    exact ⟨.bool (bs.getD i false), by simp [this], .v _, rfl⟩
  | gen m asx =>
    obtain ⟨h1, g⟩ := h.toGen
    exact g.at i (by simpa [Seg.n, h1] using hi)

/-- the segment in which cell b lies: those ahead, it, those behind, how far into it -/
def loc : List Seg → Nat → Option (List Seg × Seg × List Seg × Nat)
  | [], _ => none
  | s :: l, b => if b < s.n then some ([], s, l, b) else (loc l (b - s.n)).map fun p => (s :: p.1, p.2.1, p.2.2.1, p.2.2.2)
theorem loc_spec : ∀ {l : List Seg} {b : Nat} {p : List Seg} {s : Seg} {q : List Seg} {i : Nat}, loc l b = some (p, s, q, i) → l = p ++ s :: q ∧ b = segN p + i ∧ i < s.n
  | [], _, _, _, _, _, h => by cases h
  | s :: l, b, p, s', q, i, h => by
    unfold loc at h
    by_cases hb : b < s.n
    · rw [if_pos hb] at h
      cases h
      exact ⟨rfl, by simp [segN], hb⟩
    · rw [if_neg hb] at h
      cases hl : loc l (b - s.n) with
      | none => rw [hl] at h; cases h
      | some x =>
        rw [hl] at h
        obtain ⟨p', s2, q2, i2⟩ := x
        simp only [Option.map_some, Option.some.injEq, Prod.mk.injEq] at h
        obtain ⟨rfl, rfl, rfl, rfl⟩ := h
        obtain ⟨k1, k2, k3⟩ := loc_spec hl
        exact ⟨by rw [k1]; rfl, by simp [segN]; omega, k3⟩
theorem RL.split : ∀ {p l : List Seg} {cs : List Value}, RL S w (p ++ l) cs → ∃ c d, cs = c ++ d ∧ RL S w p c ∧ RL S w l d
  | [], _, cs, h => ⟨[], cs, rfl, .nil, h⟩
  | s :: p, l, cs, h => by
    obtain ⟨c, d, rfl, h1, h2, _⟩ := RL.head (l := p ++ l) h
    obtain ⟨c2, d2, rfl, h3, h4⟩ := h2.split
    exact ⟨c ++ c2, d2, by rw [List.append_assoc], by simpa using h1.append h3, h4⟩
/-- cells of one segment that is found -/
theorem RL.found {l : List Seg} {cs : List Value} (h : RL S w l cs) {b : Nat} {p : List Seg} {s : Seg} {q : List Seg} {i : Nat} (hl : loc l b = some (p, s, q, i)) :
    ∃ c d e, cs = c ++ (d ++ e) ∧ RL S w p c ∧ RL S w [s] d ∧ RL S w q e ∧ c.length + i = b ∧ i < s.n ∧ d.length = s.n := by
  obtain ⟨rfl, rfl, h3⟩ := loc_spec hl
  obtain ⟨c, d, rfl, h4, h5⟩ := h.split
  obtain ⟨d, e, rfl, h6, h7, h8⟩ := h5.head
  exact ⟨c, d, e, rfl, h4, h6, h7, by rw [h4.len], h3, h8⟩

/-- n cells from off on, asx segments -/
def cut : List Seg → Nat → Nat → Option (List Seg)
  | [], off, n => if n = 0 then some [] else none
  | s :: l, off, n =>
    if n = 0 then some [] else if s.n ≤ off then cut l (off - s.n) n else
    if off + n ≤ s.n then (if off = 0 ∧ n = s.n then some [s] else some [s.sub off n]) else if off = 0 then (cut l 0 (n - s.n)).map (s :: ·) else (cut l 0 (off + n - s.n)).map (s.sub off (s.n - off) :: ·)
theorem RL.cut : ∀ {l : List Seg} {cs : List Value} {off n : Nat} {m : List Seg}, RL S w l cs → cut l off n = some m → RL S w m ((cs.drop off).take n) ∧ (off + n ≤ cs.length ∨ n = 0)
  | [], cs, off, n, m, h, e => by
    unfold Go.Proofs.Ytanpamcecaoanaa.cut at e
    by_cases hn : n = 0
    · rw [if_pos hn] at e; cases e; subst hn; simp; exact .nil
    · rw [if_neg hn] at e; cases e
  | s :: l, cs, off, n, m, h, e => by
    unfold Go.Proofs.Ytanpamcecaoanaa.cut at e
    by_cases hn : n = 0
    · rw [if_pos hn] at e; cases e; subst hn; simp; exact .nil
    rw [if_neg hn] at e
    obtain ⟨c, d, rfl, h1, h2, h3⟩ := h.head
    by_cases ho : s.n ≤ off
    · rw [if_pos ho] at e
      obtain ⟨k1, k2⟩ := h2.cut e
      refine ⟨?_, by rcases k2 with k2 | k2; left; simp; omega; exact .inr k2⟩
      rw [List.drop_append, List.drop_of_length_le (by omega), List.nil_append, h3]; exact k1
    rw [if_neg ho] at e
    by_cases ha : off + n ≤ s.n
    · rw [if_pos ha] at e
      have hx : ((c ++ d).drop off).take n = (c.drop off).take n := by
        rw [List.drop_append_of_le_length (by omega), List.take_append_of_le_length (by simp; omega)]
      rw [hx]
      refine ⟨?_, .inl (by simp; omega)⟩
      by_cases hz : off = 0 ∧ n = s.n
      · rw [if_pos hz] at e; cases e
        obtain ⟨rfl, rfl⟩ := hz
        rw [List.drop_zero, List.take_of_length_le (by omega)]; exact h1
      · rw [if_neg hz] at e; cases e
        exact h1.sub off n ha
    rw [if_neg ha] at e
    have key : ∀ (m' : List Seg), Go.Proofs.Ytanpamcecaoanaa.cut l 0 (off + n - s.n) = some m' → RL S w m' (d.take (off + n - s.n)) ∧ off + n ≤ (c ++ d).length := by
      intro m' he
      obtain ⟨k1, k2⟩ := h2.cut he
      refine ⟨by simpa using k1, ?_⟩
      rcases k2 with k2 | k2
      · simp; omega
      · omega
    have hx : ((c ++ d).drop off).take n = c.drop off ++ d.take (off + n - s.n) := by
      rw [List.drop_append_of_le_length (by omega), List.take_append, List.take_of_length_le (by simp; omega)]
      congr 2
      simp; omega
    rw [hx]
    by_cases hz : off = 0
    · rw [if_pos hz] at e
      subst hz
      cases hq : Go.Proofs.Ytanpamcecaoanaa.cut l 0 (n - s.n) with
      | none => rw [hq] at e; cases e
      | some m' =>
        rw [hq] at e
        cases e
        obtain ⟨k1, k2⟩ := key m' (by rw [Nat.zero_add]; exact hq)
        exact ⟨by simpa using h1.append k1, .inl k2⟩
    · rw [if_neg hz] at e
      cases hq : Go.Proofs.Ytanpamcecaoanaa.cut l 0 (off + n - s.n) with
      | none => rw [hq] at e; cases e
      | some m' =>
        rw [hq] at e
        cases e
        obtain ⟨k1, k2⟩ := key m' hq
        refine ⟨?_, .inl k2⟩
        have h4 := h1.sub off (s.n - off) (by omega)
        rw [List.take_of_length_le (by simp; omega)] at h4
        simpa using h4.append k1
end
end Go.Proofs.Ytanpamcecaoanaa

/-
  Data told without memory: cells overwritten; slots and blocks of one's own; what they are in a world. No program is named here.
-/
namespace Go.Proofs.Ytanpamcecaoanaa
set_option maxRecDepth 100000
open Go.RowKit
set_option linter.unusedVariables false
set_option linter.unusedSimpArgs false

section
variable {S S' : Nat → Prop} {w w' : World}

/-- a segment's cells from off on overwritten by those of another one of its kind -/
def Seg.over (s : Seg) (off : Nat) (x : Seg) : Option Seg :=
  match s, x with
  | .ints k n zs, .ints k' m ys => if k = k' then some (.ints k n (zs.take off ++ (ys ++ zs.drop (off + m)))) else none
  | .bytes n bs, .bytes m ys => some (.bytes n (bs.take off ++ (ys ++ bs.drop (off + m))))
  | .bools n bs, .bools m ys => some (.bools n (bs.take off ++ (ys ++ bs.drop (off + m))))
  | .gen n l, .gen m ys => some (.gen n (l.take off ++ (ys ++ l.drop (off + m))))
  | _, _ => none
/-- one cell of a segment overwritten -/
def Seg.setK (s : Seg) (i : Nat) (a : A) (K : Seg → Prop) : Prop :=
  match s with
  | .ints k n zs => (match a with | .v (.int k' z) => k' = k ∧ K (.ints k n (zs.set i z)) | _ => False)
  | .bytes n bs => (match a with | .v (.int k' z) => k' = .u8 ∧ 0 ≤ z ∧ z < 256 ∧ K (.bytes n (bs.set i (UInt8.ofNat z.toNat))) | _ => False)
  | .bools n bs => (match a with | .v (.bool b) => K (.bools n (bs.set i b)) | _ => False)
  | .gen n l => (match a with | .v x => x.oneCell' = true ∧ K (.gen n (l.set i (.v x))) | .row m r => K (.gen n (l.set i (.row m r))) | .ref r o => K (.gen n (l.set i (.ref r o))) | .sref r o => K (.gen n (l.set i (.sref r o))) | .recs m z f => K (.gen n (l.set i (.recs m z f))) | _ => False)

theorem RG.append : ∀ {l m : List A} {cs ds : List Value}, RG S w l cs → RG S w m ds → RG S w (l ++ m) (cs ++ ds)
  | _, _, _, _, .nil, k => k
  | _, _, _, _, .cons h h1 r, k => .cons h h1 (r.append k)
theorem RG.drop : ∀ {l : List A} {cs : List Value}, RG S w l cs → ∀ n, RG S w (l.drop n) (cs.drop n)
  | _, _, .nil, n => by simp; exact .nil
  | _, _, .cons h h1 r, 0 => .cons h h1 r
  | _, _, .cons h h1 r, n + 1 => by simpa using r.drop n
theorem RG.take : ∀ {l : List A} {cs : List Value}, RG S w l cs → ∀ n, RG S w (l.take n) (cs.take n)
  | _, _, .nil, n => by simp; exact .nil
  | _, _, .cons h h1 r, 0 => by simp; exact .nil
  | _, _, .cons h h1 r, n + 1 => by simpa using .cons h h1 (r.take n)
theorem RG.set : ∀ {l : List A} {cs : List Value}, RG S w l cs → ∀ (i : Nat) {a : A} {v : Value}, RA S w a v → v.oneCell' = true → RG S w (l.set i a) (cs.set i v)
  | _, _, .nil, i, _, _, _, _ => by simp; exact .nil
  | _, _, .cons h h1 r, 0, _, _, k, k1 => by simpa using .cons k k1 r
  | _, _, .cons h h1 r, i + 1, _, _, k, k1 => by simpa using .cons h h1 (r.set i k k1)

theorem RL.over {s x s' : Seg} {cs vs : List Value} (h : RL S w [s] cs) (kx : RL S w [x] vs) (off : Nat) (e : s.over off x = some s') (hn : off + x.n ≤ s.n) :
    RL S w [s'] (cs.take off ++ (vs ++ cs.drop (off + vs.length))) ∧ s'.n = s.n := by
  cases s <;> cases x <;> simp only [Seg.over, reduceCtorEq] at e
  case ints.ints k n zs k' m ys =>
    by_cases hk : k = k'
    · rw [if_pos hk] at e; cases e; subst hk
      obtain ⟨h1, rfl⟩ := h.toInts
      obtain ⟨h2, rfl⟩ := kx.toInts
      simp only [Seg.n] at hn
      exact ⟨.ofInts (by simp; omega) (by simp [h2, List.map_take, List.map_drop]), rfl⟩
    · rw [if_neg hk] at e; cases e
  case bytes.bytes n bs m ys =>
    cases e
    obtain ⟨h1, rfl⟩ := h.toBytes
    obtain ⟨h2, rfl⟩ := kx.toBytes
    simp only [Seg.n] at hn
    exact ⟨.ofBytes (by simp; omega) (by simp [HL, h2, List.map_take, List.map_drop]), rfl⟩
  case bools.bools n bs m ys =>
    cases e
    obtain ⟨h1, rfl⟩ := h.toBools
    obtain ⟨h2, rfl⟩ := kx.toBools
    simp only [Seg.n] at hn
    exact ⟨.ofBools (by simp; omega) (by simp [h2, List.map_take, List.map_drop]), rfl⟩
  case gen.gen n l m ys =>
    cases e
    obtain ⟨h1, g⟩ := h.toGen
    obtain ⟨h2, g2⟩ := kx.toGen
    simp only [Seg.n] at hn
    refine ⟨.ofGen (by simp; omega) ?_, rfl⟩
    have := (g.take off).append (g2.append (g.drop (off + m)))
    rw [show vs.length = m by rw [g2.len, h2]]
    exact this
theorem Bt_ofNatA {z : Int} (h0 : 0 ≤ z) (h1 : z < 256) : Bt (UInt8.ofNat z.toNat) = z := by
  unfold Bt
  rw [UInt8.toNat_ofNat']
  omega
theorem RL.set {s : Seg} {i : Nat} {a : A} {K : Seg → Prop} (e : s.setK i a K) {cs : List Value} {v : Value} (h : RL S w [s] cs) (hv : RA S w a v) : ∃ s', K s' ∧ RL S w [s'] (cs.set i v) ∧ s'.n = s.n ∧ v.oneCell' = true := by
  cases s with
  | ints k n zs =>
    simp only [Seg.setK] at e
    split at e
    · obtain ⟨rfl, hK⟩ := e
      cases hv
      obtain ⟨h1, rfl⟩ := h.toInts
      exact ⟨_, hK, .ofInts (by simp [h1]) (by simp [List.map_set]), rfl, rfl⟩
    · exact e.elim
  | bytes n bs =>
    simp only [Seg.setK] at e
    split at e
    · obtain ⟨rfl, h0, h2, hK⟩ := e
      cases hv
      obtain ⟨h1, rfl⟩ := h.toBytes
      exact ⟨_, hK, .ofBytes (by simp [h1]) (by simp [HL, List.map_set, Bt_ofNatA h0 h2]), rfl, rfl⟩
    · exact e.elim
  | bools n bs =>
    simp only [Seg.setK] at e
    split at e
    · cases hv
      obtain ⟨h1, rfl⟩ := h.toBools
      exact ⟨_, e, .ofBools (by simp [h1]) (by simp [List.map_set]), rfl, rfl⟩
    · exact e.elim
  | gen n l =>
    obtain ⟨h1, g⟩ := h.toGen
    simp only [Seg.setK] at e
    split at e
    · cases hv
      exact ⟨_, e.2, .ofGen (by simp [h1]) (g.set i (.v _) e.1), rfl, e.1⟩
    · cases hv with | row a b c d f => exact ⟨_, e, .ofGen (by simp [h1]) (g.set i (.row a b c d f) rfl), rfl, rfl⟩
    · cases hv with | ref a b => exact ⟨_, e, .ofGen (by simp [h1]) (g.set i (.ref a b) rfl), rfl, rfl⟩
    · cases hv with | sref a b => exact ⟨_, e, .ofGen (by simp [h1]) (g.set i (.sref a b) rfl), rfl, rfl⟩
    · cases hv with | recs a b c d f => exact ⟨_, e, .ofGen (by simp [h1]) (g.set i (.recs a b c d f) rfl), rfl, rfl⟩
    · exact e.elim

/-- segments laid over others from cell base on -/
def put : List Seg → Nat → List Seg → Option (List Seg)
  | l, _, [] => some l
  | [], _, _ :: _ => none
  | s :: l, base, x :: new =>
    if s.n ≤ base then (put l (base - s.n) (x :: new)).map (s :: ·)
    else if base = 0 ∧ x.n = s.n then (put l 0 new).map (x :: ·)
    else match new with
      | [] => if base + x.n ≤ s.n then (s.over base x).map (· :: l) else none
      | _ :: _ => none
theorem RL.put : ∀ {l : List Seg} {cs : List Value} {base : Nat} {new : List Seg} {vs : List Value} {l' : List Seg}, RL S w l cs → RL S w new vs → put l base new = some l' →
    RL S w l' (cs.take base ++ (vs ++ cs.drop (base + vs.length))) ∧ (base + vs.length ≤ cs.length ∨ vs = [])
  | l, cs, base, [], vs, l', h, k, e => by
    cases k.nil_inv
    simp only [Go.Proofs.Ytanpamcecaoanaa.put] at e; cases e
    exact ⟨by simpa using h, .inr rfl⟩
  | [], cs, base, x :: new, vs, l', h, k, e => by simp [Go.Proofs.Ytanpamcecaoanaa.put] at e
  | s :: l, cs, base, x :: new, vs, l', h, k, e => by
    unfold Go.Proofs.Ytanpamcecaoanaa.put at e
    obtain ⟨c, d, rfl, h1, h2, h3⟩ := h.head
    by_cases hs : s.n ≤ base
    · rw [if_pos hs] at e
      cases hq : Go.Proofs.Ytanpamcecaoanaa.put l (base - s.n) (x :: new) with
      | none => rw [hq] at e; cases e
      | some m =>
        rw [hq] at e; cases e
        obtain ⟨k1, k2⟩ := h2.put k hq
        refine ⟨?_, by rcases k2 with k2 | k2; left; simp; omega; exact .inr k2⟩
        have := h1.append k1
        rw [List.take_append, List.take_of_length_le (by omega), List.append_assoc, h3, List.drop_append, List.drop_of_length_le (by omega), List.nil_append, h3, show base + vs.length - s.n = base - s.n + vs.length by omega]
        simpa using this
    rw [if_neg hs] at e
    by_cases hz : base = 0 ∧ x.n = s.n
    · rw [if_pos hz] at e
      obtain ⟨rfl, hx⟩ := hz
      obtain ⟨c2, d2, rfl, k1, k2, k3⟩ := k.head
      cases hq : Go.Proofs.Ytanpamcecaoanaa.put l 0 new with
      | none => rw [hq] at e; cases e
      | some m =>
        rw [hq] at e; cases e
        obtain ⟨k4, k5⟩ := h2.put k2 hq
        refine ⟨?_, .inl ?_⟩
        · have := k1.append k4
          simp only [List.take_zero, List.nil_append, Nat.zero_add] at this ⊢
          rw [List.length_append, List.drop_append, List.drop_of_length_le (by omega), List.nil_append, h3, show c2.length + d2.length - s.n = d2.length by omega, List.append_assoc]
          simpa using this
        · rcases k5 with k5 | k5
          · simp; omega
          · subst k5; simp; omega
    rw [if_neg hz] at e
    cases new with
    | cons y new => simp at e
    | nil =>
      simp only at e
      by_cases ho : base + x.n ≤ s.n
      · rw [if_pos ho] at e
        cases hq : s.over base x with
        | none => rw [hq] at e; cases e
        | some s' =>
          rw [hq] at e; cases e
          have hl : vs.length = x.n := by have := k.len; simpa [segN] using this
          obtain ⟨k1, k2⟩ := h1.over k base hq ho
          refine ⟨?_, .inl (by simp; omega)⟩
          have := k1.append h2
          rw [List.take_append_of_le_length (by omega), List.drop_append_of_le_length (by omega)]
          simpa using this
      · rw [if_neg ho] at e; cases e
end

/-! slots -/
/-- a part of a row of slices -/
inductive Pt where
  | dat (a : A)
  | own (b n : Nat)
  | win (b base n : Nat)
def Pt.refs : Pt → List Nat
  | .dat _ => []
  | .own b _ | .win b _ _ => [b]
inductive T where
  | d (a : A)
  | ptr (b base : Nat)
  | pti (b base rel : Nat)
  | own (b n : Nat)
  | win (b base n : Nat)
  | ept (b n off : Nat)
  | pre (b n m : Nat)
  | tup (l : List A)
  | rows (l : List Pt)
  | ob (b : Nat)
  | hsl (b n : Nat)
  | bxp (b c : Nat)
  | mp (b : Nat)
  | dead
def T.refs : T → List Nat
  | .ptr b _ | .pti b _ _ | .own b _ | .win b _ _ | .ept b _ _ | .pre b _ _ => [b]
  | .rows l => l.flatMap Pt.refs
  | .ob b => [b]
  | .mp b => [b]
  | .hsl b _ => [b]
  | .bxp b c => [b, c]
  | _ => []
/-- several blocks of one's own, of which one value tells -/
def fpv (F : List Nat) : Value := .tuple (F.map fun q => Value.pointer (some ⟨q, 0, none⟩)).toArray
def Rl : Value → Nat → Prop
  | .pointer (some a), r => a.block = r
  | .slice (some a) _ _, r => a.block = r
  | .tuple l, r => Value.pointer (some ⟨r, 0, none⟩) ∈ l.toList ∨ ∃ a n c, Value.slice (some a) n c ∈ l.toList ∧ a.block = r
  | _, _ => False
theorem rl_fpv {F : List Nat} {r : Nat} : Rl (fpv F) r ↔ r ∈ F := by simp [Rl, fpv]
theorem rl_own {v : Value} {r : Nat} (h : ∃ ad n c, v = Value.slice ad n c) : Rl v r ↔ v.ownBlock = some r := by
  obtain ⟨ad, n, c, rfl⟩ := h
  cases ad <;> simp [Rl, Value.ownBlock]
theorem fpv_head {r r' : Nat} {F F' : List Nat} (h : fpv (r :: F) = fpv (r' :: F')) : r = r' := by
  unfold fpv at h
  simp at h
  exact h.1
/-- a variable, and the slice of one's own that one of its cells holds -/
def uvh (r : Nat) (su : Value) : Value := .tuple #[.pointer (some ⟨r, 0, none⟩), su]
theorem rl_uvh {r q : Nat} {su : Value} (h : ∃ ad n c, su = Value.slice ad n c) : Rl (uvh r su) q ↔ r = q ∨ Rl su q := by
  obtain ⟨ad, n, c, rfl⟩ := h
  constructor
  · rintro (h | ⟨a, n', c', h, e⟩)
    · simp [uvh] at h; exact .inl h.symm
    · simp [uvh] at h
      obtain ⟨rfl, rfl, rfl⟩ := h
      exact .inr e
  · rintro (rfl | h)
    · exact .inl (by simp [uvh])
    · cases ad with
      | none => exact h.elim
      | some a => exact .inr ⟨a, n, c, by simp [uvh], h⟩
theorem uvh_inj {r r' : Nat} {su su' : Value} (h : uvh r su = uvh r' su') : r = r' ∧ su = su' := by
  simp [uvh] at h; exact h
theorem uvh_no {r : Nat} {su : Value} : (∀ a, uvh r su ≠ .pointer a) ∧ ∀ a n c, uvh r su ≠ .slice a n c := by
  constructor
  · intro a h; cases h
  · intro a n c h; cases h
theorem uvh_fpv {r : Nat} {ad : Option Addr} {n c : Nat} {F : List Nat} : uvh r (.slice ad n c) ≠ fpv F := by
  intro h
  unfold uvh fpv at h
  have h := congrArg (fun v => match v with | Value.tuple l => l.toList | _ => []) h
  simp only at h
  rcases F with _ | ⟨x, _ | ⟨y, F⟩⟩ <;> simp at h
/-- where a variable lies -/
def Root (u : Value) (r : Nat) : Prop := u = .pointer (some ⟨r, 0, none⟩) ∨ ∃ ad n c, u = uvh r (.slice ad n c)
theorem Root.ptr {q r : Nat} (h : Root (.pointer (some ⟨q, 0, none⟩)) r) : q = r := by
  rcases h with h | ⟨_, _, _, h⟩
  · cases h; rfl
  · exact (uvh_no.1 _ h.symm).elim
theorem Root.uvh {q r : Nat} {su : Value} (h : Root (Go.Proofs.Ytanpamcecaoanaa.uvh q su) r) : q = r := by
  rcases h with h | ⟨_, _, _, h⟩
  · exact (uvh_no.1 _ h).elim
  · exact (uvh_inj h).1
theorem Root.slice {a : Option Addr} {n c r : Nat} (h : Root (.slice a n c) r) : False := by
  rcases h with h | ⟨_, _, _, h⟩
  · cases h
  · exact uvh_no.2 _ _ _ h.symm
theorem Root.fpv {F : List Nat} {r : Nat} (h : Root (Go.Proofs.Ytanpamcecaoanaa.fpv F) r) : False := by
  rcases h with h | ⟨_, _, _, h⟩
  · cases h
  · exact uvh_fpv h.symm
theorem fpv_no {F : List Nat} : (∀ a, fpv F ≠ .pointer a) ∧ ∀ a n c, fpv F ≠ .slice a n c := by
  constructor
  · intro a h; cases h
  · intro a n c h; cases h
/-- the memory at these blocks -/
def hres (w : World) (F : List Nat) : Nat → Option Obj := fun q => if q ∈ F then w.heap[q]? else none
theorem hres_eq {w w' : World} {F : List Nat} (h : ∀ q ∈ F, w'.heap[q]? = w.heap[q]?) : hres w' F = hres w F := by
  funext q; unfold hres; split
  · next hq => exact h q hq
  · rfl
/-- what is told of an object: of the memory at its blocks, and where it begins -/
structure OP where
  p : (Nat → Prop) → World → List Nat → Nat → Prop
  up : ∀ {D D' : Nat → Prop} {w w' : World} {F : List Nat} {r : Nat}, Keeps D w D' w' → (∀ q ∈ F, w'.heap[q]? = w.heap[q]?) → p D w F r → p D' w' F r
  fl : Bool := false
  hfl : fl = true → ∀ {D D' : Nat → Prop} {w : World} {F : List Nat} {r : Nat}, p D w F r → p D' w F r := by intro h; cases h
  dv : Option (List Seg) := none
  hdv : ∀ l, dv = some l → ∀ {D : Nat → Prop} {w : World} {F : List Nat} {r : Nat}, p D w F r → RA (fun z => D z ∨ z ∈ F) w (.sref l 0) (.pointer (some ⟨r, 0, none⟩)) := by intro l h; cases h
/-- one that tells of the memory at its blocks alone -/
def OP.of (p : (Nat → Option Obj) → Nat → Prop) : OP := { p := fun _ w F r => p (hres w F) r, up := fun _ e h => by rw [hres_eq e]; exact h, fl := true, hfl := by intro _ D D' w F r h; exact h }
/-- a block of one's own: a variable; a slice that may be appended to; something of which only this is known -/
inductive Bk where
  | var (l : List Seg)
  | sl (e : TypeId) (sz n : Nat) (l : List Seg)
  | obj (p : List Value → TypeId → Prop)
  | abs (p : OP)
  | vh (l : List Seg) (off : Nat) (p : Bool) (e : TypeId) (sz n : Nat) (m : List Seg)
  | gone
  | bx
def nown (ρ : Nat → Option Value) (r : Nat) : Prop := ∀ b u, ρ b = some u → ¬ Rl u r
/-- where data may lie -/
def Dt (S : Nat → Prop) (base : Nat) (ρ : Nat → Option Value) (r : Nat) : Prop := (S r ∨ base ≤ r) ∧ nown ρ r

inductive RAs (S : Nat → Prop) (w : World) : List A → List Value → Prop
  | nil : RAs S w [] []
  | cons {a : A} {v : Value} {asx : List A} {vs : List Value} (h : RA S w a v) (r : RAs S w asx vs) : RAs S w (a :: asx) (v :: vs)
theorem RAs.up {S S' : Nat → Prop} {w w' : World} (k : Keeps S w S' w') : ∀ {l : List A} {vs : List Value}, RAs S w l vs → RAs S' w' l vs
  | _, _, .nil => .nil
  | _, _, .cons h r => .cons (h.up k) (r.up k)

def RP (D : Nat → Prop) (ρ : Nat → Option Value) (w : World) : Pt → Value → Prop
  | .dat a, v => RA D w a v
  | .own b n, v => ∀ u, ρ b = some u → ∃ a n' c, u = .slice a n' c ∧ n ≤ n' ∧ (n = n' → v = u)
  | .win b base n, v => ∀ u, ρ b = some u → ∃ r c, Root u r ∧ v = .slice (some ⟨r, base, none⟩) n c ∧ n ≤ c ∧ c ≤ maxLen
inductive RPs (D : Nat → Prop) (ρ : Nat → Option Value) (w : World) : List Pt → List Value → Prop
  | nil : RPs D ρ w [] []
  | cons {p : Pt} {v : Value} {ps : List Pt} {vs : List Value} (h : RP D ρ w p v) (r : RPs D ρ w ps vs) : RPs D ρ w (p :: ps) (v :: vs)
theorem RPs.map {D D' : Nat → Prop} {ρ ρ' : Nat → Option Value} {w w' : World} : ∀ {l : List Pt} {vs : List Value}, (∀ p ∈ l, ∀ v, RP D ρ w p v → RP D' ρ' w' p v) → RPs D ρ w l vs → RPs D' ρ' w' l vs
  | _, _, _, .nil => .nil
  | _, _, f, .cons h r => .cons (f _ (by simp) _ h) (r.map fun p hp => f p (by simp [hp]))
theorem RPs.len {D : Nat → Prop} {ρ : Nat → Option Value} {w : World} : ∀ {l : List Pt} {vs : List Value}, RPs D ρ w l vs → vs.length = l.length
  | _, _, .nil => rfl
  | _, _, .cons h r => by simp [r.len]
/-- where slices stand in a row -/
def RowsAt (D : Nat → Prop) (w : World) (vs : List Value) (v : Value) : Prop :=
  ∃ r, v = .slice (some ⟨r, 0, none⟩) vs.length vs.length ∧ vs ≠ [] ∧ vs.length ≤ maxLen ∧ D r ∧ r < w.heap.size ∧ ∀ (i : Nat) (h : i < vs.length), w.cell? ⟨r, i, none⟩ = some vs[i]
theorem RowsAt.up {D D' : Nat → Prop} {w w' : World} {vs : List Value} {v : Value} (k : Keeps D w D' w') (h : RowsAt D w vs v) : RowsAt D' w' vs v := by
  obtain ⟨r, h1, h2, h3, h4, h5, h6⟩ := h
  exact ⟨r, h1, h2, h3, (k.2 r h5 h4).1, Nat.lt_of_lt_of_le h5 k.1, fun i hi => ((k.2 r h5 h4).2 _).trans (h6 i hi)⟩
theorem RP.up {D D' : Nat → Prop} {ρ ρ' : Nat → Option Value} {w w' : World} (k : Keeps D w D' w') {p : Pt} {v : Value} (hr : ∀ b ∈ p.refs, ρ' b = ρ b) (h : RP D ρ w p v) : RP D' ρ' w' p v := by
  cases p with
  | dat a => exact RA.up k h
  | own b n => intro u hu; rw [hr b (by simp [Pt.refs])] at hu; exact h u hu
  | win b base n => intro u hu; rw [hr b (by simp [Pt.refs])] at hu; exact h u hu
def RT (D : Nat → Prop) (ρ : Nat → Option Value) (w : World) : T → Value → Prop
  | .d a, v => RA D w a v
  | .ptr b base, v => ∀ u, ρ b = some u → ∃ r, Root u r ∧ v = .pointer (some ⟨r, base, none⟩)
  | .pti b base rel, v => ∀ u, ρ b = some u → ∃ r, Root u r ∧ v = .pointer (some ⟨r, base + rel, none⟩)
  | .own b n, v => ∀ u, ρ b = some u → ∃ a n' c, u = .slice a n' c ∧ n ≤ n' ∧ (n = n' → v = u)
  | .win b base n, v => ∀ u, ρ b = some u → ∃ r c, Root u r ∧ v = .slice (some ⟨r, base, none⟩) n c ∧ n ≤ c ∧ c ≤ maxLen
  | .ept b n off, v => ∀ u, ρ b = some u → ∃ a n' c, u = .slice a n' c ∧ n ≤ n' ∧ (n = n' → ∃ r, a = some ⟨r, 0, none⟩ ∧ v = .pointer (some ⟨r, off, none⟩))
  | .pre b n m, v => ∀ u, ρ b = some u → ∃ a n' c, u = .slice a n' c ∧ m ≤ n' ∧ (m = n' → v = .slice (if c = 0 then a else a.map (·.add 0)) n c)
  | .tup l, v => ∃ vs, v = .tuple vs.toArray ∧ RAs D w l vs
  | .rows l, v => ∃ vs, RPs D ρ w l vs ∧ RowsAt D w vs v
  | .ob b, v => ∀ u, ρ b = some u → ∃ r F, u = fpv (r :: F) ∧ v = .pointer (some ⟨r, 0, none⟩)
  | .hsl b n, v => ∀ u, ρ b = some u → (∃ r a n' c, u = uvh r (.slice a n' c) ∧ n ≤ n' ∧ (n = n' → v = .slice a n' c)) ∨ ∃ r, u = .pointer (some ⟨r, 0, none⟩)
  | .bxp b _, v => ∀ u, ρ b = some u → ∃ r, Root u r ∧ v = .pointer (some ⟨r, 0, none⟩)
  | .mp b, v => ∀ u, ρ b = some u → ∃ r F, u = fpv (r :: F) ∧ v = .map (some r)
  | .dead, _ => True
def RB (base : Nat) (D : Nat → Prop) (ρ : Nat → Option Value) (w : World) (b : Nat) : Option Bk → Prop
  | none => ρ b = none
  | some (.var l) => ∃ r cs t, ρ b = some (.pointer (some ⟨r, 0, none⟩)) ∧ True ∧ w.heap[r]? = some (.cells (List.toArray cs) t (0, 0)) ∧ RL D w l cs
  | some (.sl e sz n l) => ∃ u cs, ρ b = some u ∧ w.ownsRow base e sz u n cs ∧ RL D w l cs
  | some (.obj p) => ∃ r cs t, ρ b = some (.pointer (some ⟨r, 0, none⟩)) ∧ True ∧ w.heap[r]? = some (.cells (List.toArray cs) t (0, 0)) ∧ p cs t
  | some (.abs p) => ∃ r F, ρ b = some (fpv (r :: F)) ∧ (∀ q ∈ r :: F, q < w.heap.size) ∧ p.p D w (r :: F) r
  | some (.vh l off p e sz n m) => ∃ r cs t su ms, ρ b = some (uvh r su) ∧ w.heap[r]? = some (.cells (List.toArray cs) t (0, 0)) ∧ ¬ Rl su r ∧ w.ownsRow base e sz su n ms ∧ RL D w m ms ∧ RL D w l (cs.set off (.slice none 0 0)) ∧ off < cs.length ∧ (p = true → cs[off]? = some su)
  | some .gone => ∃ n, ρ b = some (.slice none n 0)
  | some .bx => b ≠ 0 ∧ ∃ q r t, ρ b = some (.pointer (some ⟨r, 0, none⟩)) ∧ w.heap[r]? = some (.cells #[.pointer (some ⟨q, 0, none⟩)] t (0, 0)) ∧ ρ 0 = some (.pointer (some ⟨q, 0, none⟩))

theorem RT.up {D D' : Nat → Prop} {ρ ρ' : Nat → Option Value} {w w' : World} (k : Keeps D w D' w') {t : T} {v : Value} (hr : ∀ b ∈ t.refs, ρ' b = ρ b) (h : RT D ρ w t v) : RT D' ρ' w' t v := by
  cases t with
  | d a => exact RA.up k h
  | tup l => obtain ⟨vs, rfl, h⟩ := h; exact ⟨vs, rfl, h.up k⟩
  | rows l => obtain ⟨vs, h1, h2⟩ := h; exact ⟨vs, h1.map fun p hp v hv => hv.up k fun b hb => hr b (by simp only [T.refs, List.mem_flatMap]; exact ⟨p, hp, hb⟩), h2.up k⟩
  | dead => trivial
  | ptr b base => intro u hu; rw [hr b (by simp [T.refs])] at hu; exact h u hu
  | pti b base rel => intro u hu; rw [hr b (by simp [T.refs])] at hu; exact h u hu
  | own b n => intro u hu; rw [hr b (by simp [T.refs])] at hu; exact h u hu
  | win b base n => intro u hu; rw [hr b (by simp [T.refs])] at hu; exact h u hu
  | ept b n off => intro u hu; rw [hr b (by simp [T.refs])] at hu; exact h u hu
  | pre b n m => intro u hu; rw [hr b (by simp [T.refs])] at hu; exact h u hu
  | ob b => intro u hu; rw [hr b (by simp [T.refs])] at hu; exact h u hu
  | mp b => intro u hu; rw [hr b (by simp [T.refs])] at hu; exact h u hu
  | hsl b n => intro u hu; rw [hr b (by simp [T.refs])] at hu; exact h u hu
  | bxp b c => intro u hu; rw [hr b (by simp [T.refs])] at hu; exact h u hu

theorem ownsRow_form {w : World} {base : Nat} {e : TypeId} {sz n : Nat} {u : Value} {cs : List Value} (h : w.ownsRow base e sz u n cs) : ∃ ad c, u = .slice ad n c := by
  rcases h.2 with ⟨e1, e2⟩ | ⟨q, cap, cur, e1, _⟩
  · exact ⟨_, _, by rw [e1, e2]⟩
  · exact ⟨_, _, e1⟩
theorem ownsRow_real {w : World} {base : Nat} {e : TypeId} {sz n : Nat} {u : Value} {cs : List Value} (h : w.ownsRow base e sz u n cs) {q : Nat} (hq : Rl u q) : base ≤ q ∧ q < w.heap.size := by
  rcases h.2 with ⟨e1, e2⟩ | ⟨q', cap, cur, e1, e3, e4, _⟩
  · rw [e1] at hq; cases hq
  · rw [e1] at hq; cases hq
    exact ⟨e3, (Array.getElem?_eq_some_iff.1 e4).1⟩
/-- the memory at the slice's block is there as it was -/
theorem ownsRow_up {w w' : World} {base : Nat} {e : TypeId} {sz n : Nat} {u : Value} {cs : List Value} (h : w.ownsRow base e sz u n cs) (k : ∀ q, Rl u q → w'.heap[q]? = w.heap[q]?) : w'.ownsRow base e sz u n cs := by
  refine ⟨h.1, ?_⟩
  rcases h.2 with h4 | ⟨r, cap, cur, rfl, h5, h6, h7⟩
  · exact .inl h4
  · exact .inr ⟨r, cap, cur, rfl, h5, (k r rfl).trans h6, h7⟩
structure St where
  t : List T
  h : List (Option Bk)
def St.bk (s : St) (b : Nat) : Option Bk := s.h.getD b none
def St.sl (s : St) (i : Nat) : T := s.t.getD i .dead

/-- what a call begins with: a world; blocks that are lent to it; what package variables hold -/
structure W0 (G : Nat → Option (List Seg)) where
  w : World
  X : Nat → Prop
  pin : Option Nat := none
  defs : List Deferred := []
/-- below base the world is asx it was, but for what is lent -/
structure BelX (B : Nat) (X : Nat → Prop) (w w' : World) : Prop where
  os : w'.os = w.os
  tape : w'.tape = w.tape
  output : w'.output = w.output
  size : w.heap.size ≤ w'.heap.size
  block : ∀ k, k < B → ¬ X k → w'.heap[k]? = w.heap[k]?
theorem BelX.refl (B : Nat) (X : Nat → Prop) (w : World) : BelX B X w w := ⟨rfl, rfl, rfl, Nat.le_refl _, fun _ _ _ => rfl⟩
theorem BelX.grown {B : Nat} {X : Nat → Prop} {a w w' : World} {row : Option Nat} (h : BelX B X a w) (hg : w.grownBy w' row) (hB : B ≤ w.heap.size) (hr : ∀ k, row = some k → B ≤ k ∨ X k) : BelX B X a w' :=
  ⟨hg.os.trans h.os, hg.tape.trans h.tape, hg.output.trans h.output, Nat.le_trans h.size hg.size, fun k hk hx => (hg.block k (by omega) (fun e => by rcases hr k e.symm with h1 | h1; omega; exact hx h1)).trans (h.block k hk hx)⟩
/-- only what X tells of was written, and there is new memory -/
structure GrownX (X : Nat → Prop) (w w' : World) : Prop where
  os : w'.os = w.os
  tape : w'.tape = w.tape
  output : w'.output = w.output
  size : w.heap.size ≤ w'.heap.size
  block : ∀ k, k < w.heap.size → ¬ X k → w'.heap[k]? = w.heap[k]?
theorem GrownX.of {w w' : World} {row : Option Nat} (h : w.grownBy w' row) : GrownX (fun k => row = some k) w w' := ⟨h.os, h.tape, h.output, h.size, fun k hk hn => h.block k hk (fun e => hn e.symm)⟩
theorem BelX.grownX {B : Nat} {X Y : Nat → Prop} {a w w' : World} (h : BelX B X a w) (hg : GrownX Y w w') (hB : B ≤ w.heap.size) (hr : ∀ k, Y k → B ≤ k ∨ X k) : BelX B X a w' :=
  ⟨hg.os.trans h.os, hg.tape.trans h.tape, hg.output.trans h.output, Nat.le_trans h.size hg.size, fun k hk hx => (hg.block k (by omega) (fun e => by rcases hr k e with h1 | h1; omega; exact hx h1)).trans (h.block k hk hx)⟩
theorem BelX.below {B : Nat} {X : Nat → Prop} {w w' : World} (h : BelX B X w w') (hX : ∀ r, ¬ X r) : Below B w w' := ⟨h.os, h.tape, h.output, h.size, fun k hk => h.block k hk (hX k)⟩
/-- what package variables hold -/
def GOK (G : Nat → Option (List Seg)) (S : Nat → Prop) (w : World) : Prop := ∀ q l, G q = some l → ∃ cs, RL S w l cs ∧ Lies S w (some ⟨q, 0, none⟩) cs
theorem GOK.up {G : Nat → Option (List Seg)} {S S' : Nat → Prop} {w w' : World} (k : Keeps S w S' w') (h : GOK G S w) : GOK G S' w' := fun q l e => by
  obtain ⟨cs, h1, h2⟩ := h q l e
  exact ⟨cs, h1.up k, h2.up k⟩
/-- what a state without memory is in a world: ρ tells where each block lies -/
structure Good {G : Nat → Option (List Seg)} (S : Nat → Prop) (base : Nat) (w0 : W0 G) (s : St) (ρ : Nat → Option Value) (a : Act) (w : World) : Prop where
  len : s.t.length = a.tmps.size
  t : ∀ i, i < a.tmps.size → RT (Dt S base ρ) ρ w (s.sl i) (a.tmps.getD i undef)
  b : ∀ i, RB base (Dt S base ρ) ρ w i (s.bk i)
  dang : ∀ i, ∀ b ∈ (s.sl i).refs, s.bk b ≠ none
  inj : ∀ b b' u u' r, ρ b = some u → ρ b' = some u' → Rl u r → Rl u' r → b = b'
  low : ∀ b u r, ρ b = some u → Rl u r → (base ≤ r ∨ w0.X r) ∧ r < w.heap.size
  bel : BelX base w0.X w0.w w
  glob : GOK G (Dt S base ρ) w
  pin : ∀ q, w0.pin = some q → ρ 0 = some (.pointer (some ⟨q, 0, none⟩))
  size : base ≤ w.heap.size
  defs : a.defers = w0.defs

theorem getD_set_list {α : Type} (l : List α) (i : Nat) (x d : α) (j : Nat) : (l.set i x).getD j d = if i = j ∧ i < l.length then x else l.getD j d := by
  simp only [List.getD_eq_getElem?_getD, List.getElem?_set]
  by_cases h : i = j
  · subst h
    by_cases h2 : i < l.length
    · simp [h2]
    · simp [h2]
  · simp [h]

/-- a slot takes a value -/
theorem Good.put {S : Nat → Prop} {base : Nat} {G : Nat → Option (List Seg)} {w0 : W0 G} {s : St} {ρ : Nat → Option Value} {a : Act} {w : World} (g : Good S base w0 s ρ a w) (d : Nat) {t : T} {v : Value}
    (h : RT (Dt S base ρ) ρ w t v) (hr : ∀ b ∈ t.refs, s.bk b ≠ none) : Good S base w0 ⟨s.t.set d t, s.h⟩ ρ (a.put (some d) v) w := by
  refine ⟨by simp [Act.put, g.len], ?_, g.b, ?_, g.inj, g.low, g.bel, g.glob, g.pin, g.size, g.defs⟩
  · intro i hi
    have hi' : i < a.tmps.size := by simpa [Act.put] using hi
    simp only [St.sl, getD_set_list]
    by_cases hd : d = i
    · subst hd
      rw [if_pos ⟨rfl, by rw [g.len]; exact hi'⟩]
      simp [Act.put, hi', h]
    · rw [if_neg (fun e => hd e.1)]
      have := g.t i hi'
      simp only [Act.put, Array.getD_eq_getD_getElem?, Array.getElem?_setIfInBounds_ne hd] at this ⊢
      exact this
  · intro i b hb
    simp only [St.sl, getD_set_list] at hb
    split at hb
    · exact hr b hb
    · exact g.dang i b hb
theorem Good.put' {S : Nat → Prop} {base : Nat} {G : Nat → Option (List Seg)} {w0 : W0 G} {s : St} {ρ : Nat → Option Value} {a : Act} {w : World} (g : Good S base w0 s ρ a w) (d : Option Nat) {t : T} {v : Value}
    (h : RT (Dt S base ρ) ρ w t v) (hr : ∀ b ∈ t.refs, s.bk b ≠ none) : Good S base w0 ⟨(match d with | some d => s.t.set d t | none => s.t), s.h⟩ ρ (a.put d v) w := by
  cases d with
  | none => exact g
  | some d => exact g.put d h hr

def upd {α : Type} (ρ : Nat → α) (b : Nat) (x : α) : Nat → α := fun i => if i = b then x else ρ i

/-- the world changes at some blocks of one's own, or blocks are new -/
theorem Good.step {S : Nat → Prop} {base : Nat} {G : Nat → Option (List Seg)} {w0 : W0 G} {s : St} {ρ : Nat → Option Value} {a : Act} {w w' : World} (g : Good S base w0 s ρ a w) (ρ' : Nat → Option Value) (h' : List (Option Bk)) (X B : Nat → Prop)
    (hw : GrownX X w w') (hB : ∀ b, ¬ B b → ρ' b = ρ b ∧ St.bk ⟨s.t, h'⟩ b = s.bk b) (hrow : ∀ r, X r → ∃ b u, B b ∧ ρ b = some u ∧ Rl u r)
    (hnew : ∀ b u r, B b → ρ' b = some u → Rl u r → (w.heap.size ≤ r ∨ ∃ u0, ρ b = some u0 ∧ Rl u0 r) ∧ r < w'.heap.size)
    (hinj : ∀ b b' u u' r, B b → B b' → ρ' b = some u → ρ' b' = some u' → Rl u r → Rl u' r → b = b')
    (hx : Keeps (Dt S base ρ) w (Dt S base ρ') w' → ∀ b, B b → RB base (Dt S base ρ') ρ' w' b (St.bk ⟨s.t, h'⟩ b))
    (hs : Keeps (Dt S base ρ) w (Dt S base ρ') w' → ∀ i, i < a.tmps.size → (∃ b, b ∈ (s.sl i).refs ∧ B b) → RT (Dt S base ρ') ρ' w' (s.sl i) (a.tmps.getD i undef))
    (hd : ∀ b, B b → St.bk ⟨s.t, h'⟩ b ≠ none) (hp : ∀ q, ρ 0 = some (.pointer (some ⟨q, 0, none⟩)) → ρ' 0 = some (.pointer (some ⟨q, 0, none⟩))) :
    Good S base w0 ⟨s.t, h'⟩ ρ' a w' := by
  have rowlow : ∀ r, X r → base ≤ r ∨ w0.X r := fun r hr => by obtain ⟨b, u, _, h1, h2⟩ := hrow r hr; exact (g.low b u r h1 h2).1
  have K : Keeps (Dt S base ρ) w (Dt S base ρ') w' := by
    refine ⟨hw.size, fun r hr hd => ⟨⟨hd.1, fun b u hb hre => ?_⟩, fun o => ?_⟩⟩
    · by_cases hbb : B b
      · rcases (hnew b u r hbb hb hre).1 with h1 | ⟨u2, h1, h2⟩
        · omega
        · exact hd.2 b u2 h1 h2
      · rw [(hB b hbb).1] at hb; exact hd.2 b u hb hre
    · exact World.cell?_of_block (hw.block r hr (fun e => by obtain ⟨b, u, _, h1, h2⟩ := hrow r e; exact hd.2 b u h1 h2))
  refine ⟨g.len, ?_, ?_, ?_, ?_, ?_, g.bel.grownX hw g.size (fun k hk => rowlow k hk), g.glob.up K, (fun q hq => hp q (g.pin q hq)), Nat.le_trans g.size hw.size, g.defs⟩
  · intro i hi
    show RT _ _ _ (s.sl i) _
    by_cases hm : ∃ b, b ∈ (s.sl i).refs ∧ B b
    · exact hs K i hi hm
    · exact (g.t i hi).up K (fun b hb => (hB b (fun e => hm ⟨b, hb, e⟩)).1)
  · intro b
    by_cases hbb : B b
    · exact hx K b hbb
    · obtain ⟨hu, hk'⟩ := hB b hbb
      rw [hk']
      have hBb := g.b b
      have out : ∀ u r, ρ b = some u → Rl u r → w'.heap[r]? = w.heap[r]? := fun u r h1 h2 => by
        refine hw.block r (g.low b u r h1 h2).2 (fun e => ?_)
        obtain ⟨b2, u2, h5, h3, h4⟩ := hrow r e
        exact hbb (by rw [g.inj b b2 u u2 r h1 h3 h2 h4]; exact h5)
      cases hk : s.bk b with
      | none => rw [hk] at hBb; exact hu.trans hBb
      | some y =>
        rw [hk] at hBb
        cases y with
        | var l =>
          obtain ⟨r, cs, t, h1, h2, h3, h4⟩ := hBb
          exact ⟨r, cs, t, hu.trans h1, h2, (out _ r h1 rfl).trans h3, h4.up K⟩
        | obj p =>
          obtain ⟨r, cs, t, h1, h2, h3, h4⟩ := hBb
          exact ⟨r, cs, t, hu.trans h1, h2, (out _ r h1 rfl).trans h3, h4⟩
        | abs p =>
          obtain ⟨r, F, h1, h2, h3⟩ := hBb
          exact ⟨r, F, hu.trans h1, fun q hq => Nat.lt_of_lt_of_le (h2 q hq) hw.size, p.up K (fun q hq => out _ q h1 (rl_fpv.2 hq)) h3⟩
        | vh l off p e sz n m =>
          obtain ⟨r, cs, t, su, ms, h1, h2, h3, h4, h5, h6, h7, h8⟩ := hBb
          obtain ⟨ad, c, hf⟩ := ownsRow_form h4
          exact ⟨r, cs, t, su, ms, hu.trans h1, (out _ r h1 ((rl_uvh ⟨_, _, _, hf⟩).2 (.inl rfl))).trans h2, h3, ownsRow_up h4 (fun q hq => out _ q h1 ((rl_uvh ⟨_, _, _, hf⟩).2 (.inr hq))), h5.up K, h6.up K, h7, h8⟩
        | gone => obtain ⟨n, h1⟩ := hBb; exact ⟨n, hu.trans h1⟩
        | bx => obtain ⟨h0, q, r, t, h1, h2, h3⟩ := hBb; exact ⟨h0, q, r, t, hu.trans h1, (out _ r h1 rfl).trans h2, hp q h3⟩
        | sl e sz n l =>
          obtain ⟨u, cs, h1, h2, h3⟩ := hBb
          refine ⟨u, cs, hu.trans h1, ?_, h3.up K⟩
          refine ⟨h2.1, ?_⟩
          rcases h2.2 with h4 | ⟨r, cap, cur, rfl, h5, h6, h7⟩
          · exact .inl h4
          · exact .inr ⟨r, cap, cur, rfl, h5, (out _ r h1 rfl).trans h6, h7⟩
  · intro i b hb
    show St.bk ⟨s.t, h'⟩ b ≠ none
    by_cases hbb : B b
    · exact hd b hbb
    · rw [(hB b hbb).2]; exact g.dang i b hb
  · intro b b' u v r h1 h2 h3 h4
    have key : ∀ b u b' u', ¬ B b → B b' → ρ' b = some u → ρ' b' = some u' → Rl u r → Rl u' r → False := by
      intro b u b' u' hb hb' h1 h2 h3 h5
      rw [(hB b hb).1] at h1
      rcases (hnew b' u' r hb' h2 h5).1 with h6 | ⟨u2, h6, h7⟩
      · have := (g.low b u r h1 h3).2; omega
      · exact hb (by rw [g.inj b b' u u2 r h1 h6 h3 h7]; exact hb')
    by_cases e1 : B b
    · by_cases e2 : B b'
      · exact hinj b b' u v r e1 e2 h1 h2 h3 h4
      · exact (key b' v b u e2 e1 h2 h1 h4 h3).elim
    · by_cases e2 : B b'
      · exact (key b u b' v e1 e2 h1 h2 h3 h4).elim
      · rw [(hB b e1).1] at h1; rw [(hB b' e2).1] at h2
        exact g.inj b b' u v r h1 h2 h3 h4
  · intro b u r h1 h2
    by_cases e1 : B b
    · refine ⟨?_, (hnew b u r e1 h1 h2).2⟩
      rcases (hnew b u r e1 h1 h2).1 with h3 | ⟨u2, h3, h4⟩
      · exact .inl (Nat.le_trans g.size h3)
      · exact (g.low b u2 r h3 h4).1
    · rw [(hB b e1).1] at h1
      have := g.low b u r h1 h2
      exact ⟨this.1, Nat.lt_of_lt_of_le this.2 hw.size⟩
/-- the world changes at one block of one's own, or a block is new -/
theorem Good.change {S : Nat → Prop} {base : Nat} {G : Nat → Option (List Seg)} {w0 : W0 G} {s : St} {ρ : Nat → Option Value} {a : Act} {w w' : World} (g : Good S base w0 s ρ a w) (b0 : Nat) (hb0 : b0 < s.h.length) (u' : Value) (x : Bk) (row : Option Nat)
    (hw : w.grownBy w' row) (hrow : ∀ r, row = some r → ∃ u, ρ b0 = some u ∧ Rl u r)
    (hnew : ∀ r, Rl u' r → (w.heap.size ≤ r ∨ ∃ u, ρ b0 = some u ∧ Rl u r) ∧ r < w'.heap.size)
    (hx : Keeps (Dt S base ρ) w (Dt S base (upd ρ b0 (some u'))) w' → RB base (Dt S base (upd ρ b0 (some u'))) (upd ρ b0 (some u')) w' b0 (some x))
    (hs : Keeps (Dt S base ρ) w (Dt S base (upd ρ b0 (some u'))) w' → ∀ i, i < a.tmps.size → b0 ∈ (s.sl i).refs → RT (Dt S base (upd ρ b0 (some u'))) (upd ρ b0 (some u')) w' (s.sl i) (a.tmps.getD i undef))
    (hp : ∀ q, ρ b0 = some (.pointer (some ⟨q, 0, none⟩)) → u' = .pointer (some ⟨q, 0, none⟩)) :
    Good S base w0 ⟨s.t, s.h.set b0 (some x)⟩ (upd ρ b0 (some u')) a w' := by
  have hu : ∀ b, b ≠ b0 → upd ρ b0 (some u') b = ρ b := fun b hb => by simp [upd, hb]
  have hu0 : upd ρ b0 (some u') b0 = some u' := by simp [upd]
  have hbk0 : St.bk ⟨s.t, s.h.set b0 (some x)⟩ b0 = some x := by simp [St.bk, hb0]
  refine g.step (upd ρ b0 (some u')) (s.h.set b0 (some x)) (fun k => row = some k) (fun b => b = b0) (.of hw) (fun b hb => ⟨hu b hb, ?_⟩) (fun r hr => ?_) (fun b u r hb h1 h2 => ?_) (fun b b' _ _ _ h1 h2 _ _ _ _ => h1.trans h2.symm) (fun K b hb => ?_) (fun K i hi hm => ?_) (fun b hb => ?_) (fun q hq => ?_)
  · simp only [St.bk, getD_set_list]; rw [if_neg (fun e => hb e.1.symm)]
  · obtain ⟨u, h1, h2⟩ := hrow r hr; exact ⟨b0, u, rfl, h1, h2⟩
  · subst hb; rw [hu0] at h1; cases h1; exact hnew r h2
  · subst hb; rw [hbk0]; exact hx K
  · obtain ⟨b, h1, rfl⟩ := hm; exact hs K i hi h1
  · subst hb; rw [hbk0]; simp
  · by_cases e : b0 = 0
    · subst e; rw [hu0, hp q hq]
    · rw [hu 0 (fun e' => e e'.symm)]; exact hq

/-- only new memory -/
theorem Good.grow {S : Nat → Prop} {base : Nat} {G : Nat → Option (List Seg)} {w0 : W0 G} {s : St} {ρ : Nat → Option Value} {a : Act} {w w' : World} (g : Good S base w0 s ρ a w) (hw : w.grownBy w' none) :
    Good S base w0 s ρ a w' ∧ Keeps (Dt S base ρ) w (Dt S base ρ) w' := by
  have K : Keeps (Dt S base ρ) w (Dt S base ρ) w' := ⟨hw.size, fun r hr hd => ⟨hd, fun o => World.cell?_of_block (hw.block r hr (by simp))⟩⟩
  refine ⟨⟨g.len, fun i hi => (g.t i hi).up K (fun _ _ => rfl), fun b => ?_, g.dang, g.inj, fun b u r h1 h2 => ⟨(g.low b u r h1 h2).1, Nat.lt_of_lt_of_le (g.low b u r h1 h2).2 hw.size⟩, g.bel.grown hw g.size (fun k hk => by cases hk), g.glob.up K, g.pin, Nat.le_trans g.size hw.size, g.defs⟩, K⟩
  have hB := g.b b
  have out : ∀ u r, ρ b = some u → Rl u r → w'.heap[r]? = w.heap[r]? := fun u r h1 h2 => hw.block r (g.low b u r h1 h2).2 (by simp)
  cases hk : s.bk b with
  | none => rw [hk] at hB; exact hB
  | some y =>
    rw [hk] at hB
    cases y with
    | var l =>
      obtain ⟨r, cs, t, h1, h2, h3, h4⟩ := hB
      exact ⟨r, cs, t, h1, h2, (out _ r h1 rfl).trans h3, h4.up K⟩
    | obj p =>
      obtain ⟨r, cs, t, h1, h2, h3, h4⟩ := hB
      exact ⟨r, cs, t, h1, h2, (out _ r h1 rfl).trans h3, h4⟩
    | abs p =>
      obtain ⟨r, F, h1, h2, h3⟩ := hB
      exact ⟨r, F, h1, fun q hq => Nat.lt_of_lt_of_le (h2 q hq) hw.size, p.up K (fun q hq => out _ q h1 (rl_fpv.2 hq)) h3⟩
    | vh l off p e sz n m =>
      obtain ⟨r, cs, t, su, ms, h1, h2, h3, h4, h5, h6, h7, h8⟩ := hB
      obtain ⟨ad, c, hf⟩ := ownsRow_form h4
      exact ⟨r, cs, t, su, ms, h1, (out _ r h1 ((rl_uvh ⟨_, _, _, hf⟩).2 (.inl rfl))).trans h2, h3, ownsRow_up h4 (fun q hq => out _ q h1 ((rl_uvh ⟨_, _, _, hf⟩).2 (.inr hq))), h5.up K, h6.up K, h7, h8⟩
    | gone => exact hB
    | bx => obtain ⟨h0, q, r, t, h1, h2, h3⟩ := hB; exact ⟨h0, q, r, t, h1, (out _ r h1 rfl).trans h2, h3⟩
    | sl e sz n l =>
      obtain ⟨u, cs, h1, h2, h3⟩ := hB
      refine ⟨u, cs, h1, ⟨h2.1, ?_⟩, h3.up K⟩
      rcases h2.2 with h4 | ⟨r, cap, cur, rfl, h5, h6, h7⟩
      · exact .inl h4
      · exact .inr ⟨r, cap, cur, rfl, h5, (out _ r h1 rfl).trans h6, h7⟩
end Go.Proofs.Ytanpamcecaoanaa

/-
  Types asx the machine without memory is told of them; contracts; operations and what they come to. No program is named here.
-/
namespace Go.Proofs.Ytanpamcecaoanaa
set_option maxRecDepth 100000
open Go.RowKit
set_option linter.unusedVariables false
set_option linter.unusedSimpArgs false

/-- what is told of a type -/
structure TI where
  sz : Nat
  agg : Bool
  zero : List Seg
  fld : List Nat
  fty : List TypeId
  esz : Nat
  len : Nat
  sl : Bool
  elem : TypeId
  knd : Option IntKind
  bytes : Nat
  eq : Bool
  plc : List (Nat × Nat)

def aggOf (P : Program) (t : TypeId) : Bool := match P.underlying t with | some (.struct _) => true | some (.array _ _) => true | _ => false
def isInt (k : IntKind) (z : Int) : Value → Bool | .int k' z' => decide (k = k') && decide (z = z') | _ => false
def isBoolV (b : Bool) : Value → Bool | .bool b' => b == b' | _ => false
def isPlain : A → Value → Bool
  | .v (.slice none 0 0), .slice none 0 0 => true
  | .v (.pointer none), .pointer none => true
  | .v (.int k z), .int k' z' => decide (k = k') && decide (z = z')
  | .v (.bool b), .bool b' => b == b'
  | .v (.string s), .string s' => s.size == 0 && s'.size == 0
  | _, _ => false
def allZip {α : Type} (p : α → Value → Bool) : List α → List Value → Option (List Value)
  | [], cs => some cs
  | _ :: _, [] => none
  | a :: asx, c :: cs => if p a c then allZip p asx cs else none
def zeroB : List Seg → List Value → Bool
  | [], cs => cs.isEmpty
  | .ints k n zs :: l, cs => zs.length == n && (match allZip (isInt k) zs cs with | some r => zeroB l r | none => false)
  | .bytes n bs :: l, cs => bs.length == n && (match allZip (fun b => isInt .u8 (Bt b)) bs cs with | some r => zeroB l r | none => false)
  | .bools n bs :: l, cs => bs.length == n && (match allZip isBoolV bs cs with | some r => zeroB l r | none => false)
  | .gen n asx :: l, cs => asx.length == n && (match allZip isPlain asx cs with | some r => zeroB l r | none => false)

theorem allZip_spec {α : Type} {p : α → Value → Bool} : ∀ {asx : List α} {cs r : List Value}, allZip p asx cs = some r → ∃ c, cs = c ++ r ∧ c.length = asx.length ∧ ∀ i (h : i < asx.length) (h' : i < c.length), p asx[i] c[i] = true
  | [], cs, r, h => by cases h; exact ⟨[], rfl, rfl, fun i h => by simp at h⟩
  | a :: asx, [], r, h => by cases h
  | a :: asx, c :: cs, r, h => by
    unfold allZip at h
    by_cases hp : p a c = true
    · rw [if_pos hp] at h
      obtain ⟨d, rfl, h2, h3⟩ := allZip_spec h
      refine ⟨c :: d, rfl, by simp [h2], fun i h h' => ?_⟩
      cases i with
      | zero => exact hp
      | succ i => exact h3 i (by simpa using h) (by simpa using h')
    · rw [if_neg hp] at h; cases h
theorem byteArray_empty {s : ByteArray} (h : s.size = 0) : s = ByteArray.empty := by
  obtain ⟨⟨l⟩⟩ := s
  cases l with
  | nil => rfl
  | cons a l => simp [ByteArray.size] at h
theorem isPlain_spec {a : A} {v : Value} (h : isPlain a v = true) : a = .v v ∧ v.oneCell' = true := by
  unfold isPlain at h
  split at h <;> first | (cases h; done) | skip
  · exact ⟨rfl, rfl⟩
  · exact ⟨rfl, rfl⟩
  · simp only [Bool.and_eq_true, decide_eq_true_eq] at h; obtain ⟨rfl, rfl⟩ := h; exact ⟨rfl, rfl⟩
  · simp only [beq_iff_eq] at h; subst h; exact ⟨rfl, rfl⟩
  · simp only [Bool.and_eq_true, beq_iff_eq] at h
    rw [byteArray_empty h.1, byteArray_empty h.2]; exact ⟨rfl, rfl⟩
theorem isInt_spec {k : IntKind} {z : Int} {v : Value} (h : isInt k z v = true) : v = .int k z := by
  unfold isInt at h
  split at h
  · simp only [Bool.and_eq_true, decide_eq_true_eq] at h; obtain ⟨rfl, rfl⟩ := h; rfl
  · cases h
theorem isBoolV_spec {b : Bool} {v : Value} (h : isBoolV b v = true) : v = .bool b := by
  unfold isBoolV at h
  split at h
  · simp only [beq_iff_eq] at h; subst h; rfl
  · cases h
theorem zeroB_spec {S : Nat → Prop} {w : World} : ∀ {l : List Seg} {cs : List Value}, zeroB l cs = true → RL S w l cs
  | [], cs, h => by
    simp only [zeroB, List.isEmpty_iff] at h; subst h; exact .nil
  | .ints k n zs :: l, cs, h => by
    simp only [zeroB, Bool.and_eq_true, beq_iff_eq] at h
    cases hz : allZip (isInt k) zs cs with
    | none => rw [hz] at h; cases h.2
    | some r =>
      rw [hz] at h
      obtain ⟨c, rfl, h2, h3⟩ := allZip_spec hz
      have e : c = zs.map (Value.int k) := List.ext_getElem (by simp [h2]) fun i h4 h5 => by simpa using isInt_spec (h3 i (by omega) h4)
      subst e
      exact .ints h.1 (zeroB_spec h.2)
  | .bytes n bs :: l, cs, h => by
    simp only [zeroB, Bool.and_eq_true, beq_iff_eq] at h
    cases hz : allZip (fun b => isInt .u8 (Bt b)) bs cs with
    | none => rw [hz] at h; cases h.2
    | some r =>
      rw [hz] at h
      obtain ⟨c, rfl, h2, h3⟩ := allZip_spec hz
      have e : c = HL bs := List.ext_getElem (by simp [HL, h2]) fun i h4 h5 => by simpa [HL] using isInt_spec (h3 i (by omega) h4)
      subst e
      exact .bytes h.1 (zeroB_spec h.2)
  | .bools n bs :: l, cs, h => by
    simp only [zeroB, Bool.and_eq_true, beq_iff_eq] at h
    cases hz : allZip isBoolV bs cs with
    | none => rw [hz] at h; cases h.2
    | some r =>
      rw [hz] at h
      obtain ⟨c, rfl, h2, h3⟩ := allZip_spec hz
      have e : c = bs.map Value.bool := List.ext_getElem (by simp [h2]) fun i h4 h5 => by simpa using isBoolV_spec (h3 i (by omega) h4)
      subst e
      exact .bools h.1 (zeroB_spec h.2)
  | .gen n asx :: l, cs, h => by
    simp only [zeroB, Bool.and_eq_true, beq_iff_eq] at h
    cases hz : allZip isPlain asx cs with
    | none => rw [hz] at h; cases h.2
    | some r =>
      rw [hz] at h
      obtain ⟨c, rfl, h2, h3⟩ := allZip_spec hz
      have g : ∀ (asx : List A) (c : List Value), c.length = asx.length → (∀ i (h : i < asx.length) (h' : i < c.length), isPlain asx[i] c[i] = true) → RG S w asx c := by
        intro asx
        induction asx with
        | nil => intro c h _; rw [List.length_eq_zero_iff.1 h]; exact .nil
        | cons a asx ih =>
          intro c h h'
          cases c with
          | nil => simp at h
          | cons x c =>
            obtain ⟨k1, k2⟩ := isPlain_spec (h' 0 (by simp) (by simp))
            simp only [List.getElem_cons_zero] at k1 k2
            subst k1
            exact .cons (.v x) k2 (ih c (by simpa using h) fun i h1 h2 => h' (i + 1) (by simpa using h1) (by simpa using h2))
      exact .gen (g asx c h2 h3) h.1 (zeroB_spec h.2)

structure TyOK (P : Program) (t : TypeId) (i : TI) : Prop where
  info : ∃ f z, P.info? t = some f ∧ f.size = i.sz ∧ f.bytes = i.bytes ∧ f.zero = some z ∧ zeroB i.zero z.cells.toList = true
  und : ∃ d, P.underlying t = some d
  agg : aggOf P t = i.agg
  fld : ∀ (f off : Nat), i.fld[f]? = some off → ∃ fs x j, P.underlying t = some (.struct fs) ∧ fs[f]? = some x ∧ x.offset = off ∧ i.fty[f]? = some x.type ∧ P.info? x.type = some j ∧ j.size ≠ 0
  arr : i.esz ≠ 0 → (P.underlying t = some (.array i.len i.elem) ∨ P.underlying t = some (.slice i.elem)) ∧ ∃ j, P.info? i.elem = some j ∧ j.size = i.esz
  alen : i.len ≠ 0 → P.underlying t = some (.array i.len i.elem)
  knd : ∀ k, i.knd = some k → P.underlying t = some (.int k)
  sl : i.sl = true → P.underlying t = some (.slice i.elem)
  plc : i.agg = true → i.esz = 0 → ∃ fs, P.underlying t = some (.struct fs) ∧ fs.toList.mapM (fun f => (P.info? f.type).map fun j => (f.offset, j.size)) = some i.plc
def tyB (P : Program) (t : TypeId) (i : TI) : Bool :=
  (match P.info? t with | some f => f.size == i.sz && f.bytes == i.bytes && (match f.zero with | some z => zeroB i.zero z.cells.toList | none => false) | none => false) &&
  (P.underlying t).isSome && (aggOf P t == i.agg) &&
  ((List.range i.fld.length).all fun f => match P.underlying t with | some (.struct fs) => (match fs[f]? with | some x => some x.offset == i.fld[f]? && some x.type == i.fty[f]? && (match P.info? x.type with | some j => j.size != 0 | none => false) | none => false) | _ => false) &&
  (i.esz == 0 || (match P.underlying t with | some (.array n e) => n == i.len && e == i.elem | some (.slice e) => e == i.elem | _ => false) && (match P.info? i.elem with | some j => j.size == i.esz | none => false)) &&
  (i.len == 0 || (match P.underlying t with | some (.array n e) => n == i.len && e == i.elem | _ => false)) &&
  (match i.knd with | some k => (match P.underlying t with | some (.int k') => decide (k = k') | _ => false) | none => true) &&
  (!i.sl || (match P.underlying t with | some (.slice e) => e == i.elem | _ => false)) &&
  (!i.agg || i.esz != 0 || (match P.underlying t with | some (.struct fs) => decide (fs.toList.mapM (fun f => (P.info? f.type).map fun j => (f.offset, j.size)) = some i.plc) | _ => false))
theorem tyB_spec {P : Program} {t : TypeId} {i : TI} (h : tyB P t i = true) : TyOK P t i := by
  unfold tyB at h
  simp only [Bool.and_eq_true] at h
  obtain ⟨⟨⟨⟨⟨⟨⟨⟨h1, h2⟩, h3⟩, h4⟩, h5⟩, h6⟩, h7⟩, h9⟩, h10⟩ := h
  refine ⟨?_, ?_, by simpa using h3, ?_, ?_, ?_, ?_, ?_, ?_⟩
  · split at h1
    · next f hf =>
      simp only [Bool.and_eq_true, beq_iff_eq] at h1
      obtain ⟨⟨k1, k2⟩, k3⟩ := h1
      split at k3
      · next z hz => exact ⟨f, z, hf, k1, k2, hz, k3⟩
      · cases k3
    · cases h1
  · exact Option.isSome_iff_exists.1 h2
  · intro f off hf
    have hlt : f < i.fld.length := (List.getElem?_eq_some_iff.1 hf).1
    have h8 := List.all_eq_true.1 h4 f (List.mem_range.2 hlt)
    split at h8
    · next fs hu =>
      split at h8
      · next x hx =>
        simp only [Bool.and_eq_true, beq_iff_eq] at h8
        rw [hf] at h8
        split at h8
        · next j hj => exact ⟨fs, x, j, hu, hx, by simpa using h8.1.1, h8.1.2.symm, hj, by simpa using h8.2⟩
        · cases h8.2
      · cases h8
    · cases h8
  · intro he
    simp only [Bool.or_eq_true, beq_iff_eq, he, false_or, Bool.and_eq_true] at h5
    obtain ⟨k1, k2⟩ := h5
    refine ⟨?_, ?_⟩
    · split at k1
      · next n e hu => simp only [Bool.and_eq_true, beq_iff_eq] at k1; obtain ⟨rfl, rfl⟩ := k1; exact .inl hu
      · next e hu => simp only [beq_iff_eq] at k1; subst k1; exact .inr hu
      · cases k1
    · split at k2
      · next j hj => exact ⟨j, hj, by simpa using k2⟩
      · cases k2
  · intro he
    simp only [Bool.or_eq_true, beq_iff_eq, he, false_or] at h6
    split at h6
    · next n e hu => simp only [Bool.and_eq_true, beq_iff_eq] at h6; obtain ⟨rfl, rfl⟩ := h6; exact hu
    · cases h6
  · intro k hk
    rw [hk] at h7
    simp only at h7
    split at h7
    · next k' hu => simp only [decide_eq_true_eq] at h7; subst h7; exact hu
    · cases h7
  · intro hs
    rw [hs] at h9
    simp only [Bool.not_true, Bool.false_or] at h9
    split at h9
    · next e hu => simp only [beq_iff_eq] at h9; subst h9; exact hu
    · cases h9
  · intro ha he
    simp only [ha, he, Bool.not_true, Bool.false_or, bne_self_eq_false] at h10
    split at h10
    · next fs hu => exact ⟨fs, hu, by simpa using h10⟩
    · cases h10

/-! contracts -/
inductive Res where
  | d (a : A)
  | o (e : TypeId) (sz n : Nat) (l : List Seg)
  | t (l : List A)
  | p (x : Bk)
  | ob (p : OP)
/-- what a block holds -/
def HB (D : Nat → Prop) (w : World) (r : Nat) : Bk → Prop
  | .var l => ∃ cs t, w.heap[r]? = some (.cells (List.toArray cs) t (0, 0)) ∧ RL D w l cs
  | .obj p => ∃ cs t, w.heap[r]? = some (.cells (List.toArray cs) t (0, 0)) ∧ p cs t
  | .sl _ _ _ _ => False
  | .abs _ => False
  | .vh _ _ _ _ _ _ _ => False
  | .gone => False
  | .bx => False
theorem HB.up {D D' : Nat → Prop} {w w' : World} {r : Nat} {x : Bk} (k : Keeps D w D' w') (e : w'.heap[r]? = w.heap[r]?) (h : HB D w r x) : HB D' w' r x := by
  cases x with
  | var l => obtain ⟨cs, t, h1, h2⟩ := h; exact ⟨cs, t, e.trans h1, h2.up k⟩
  | obj p => obtain ⟨cs, t, h1, h2⟩ := h; exact ⟨cs, t, e.trans h1, h2⟩
  | sl => exact h.elim
  | abs => exact h.elim
  | vh => exact h.elim
  | gone => exact h.elim
  | bx => exact h.elim
def RR (S : Nat → Prop) (B : Nat) (w : World) : Res → Value → Prop
  | .d a, v => RA (fun r => S r ∨ B ≤ r) w a v
  | .o e sz n l, v => ∃ cs, w.ownsRow B e sz v n cs ∧ RL (fun r => (S r ∨ B ≤ r) ∧ v.ownBlock ≠ some r) w l cs
  | .t l, v => ∃ vs, v = .tuple vs.toArray ∧ RAs (fun r => S r ∨ B ≤ r) w l vs
  | .p x, v => ∃ r, v = .pointer (some ⟨r, 0, none⟩) ∧ B ≤ r ∧ HB (fun q => (S q ∨ B ≤ q) ∧ q ≠ r) w r x
  | .ob p, v => ∃ r F, v = .pointer (some ⟨r, 0, none⟩) ∧ (∀ q ∈ r :: F, B ≤ q ∧ q < w.heap.size) ∧ p.p (fun q => (S q ∨ B ≤ q) ∧ q ∉ r :: F) w (r :: F) r
/-- what a function answers to these -/
def FnOK (P : Program) (G : Nat → Option (List Seg)) (f : FuncId) (args : List A) (res : Res) : Prop :=
  ∀ (S : Nat → Prop) (w : World) (vs : List Value), GOK G S w → RAs S w args vs → Calls P f vs.toArray w fun e w' => ∃ v, e = .returned v ∧ RR S w.heap.size w' res v ∧ Below w.heap.size w w'

/-- the same, where the answer lies in new memory alone -/
def FnF (P : Program) (G : Nat → Option (List Seg)) (f : FuncId) (args : List A) (res : Res) : Prop :=
  ∀ (S : Nat → Prop) (w : World) (vs : List Value), GOK G S w → RAs S w args vs → Calls P f vs.toArray w fun e w' => ∃ v, e = .returned v ∧ RR (fun _ => False) w.heap.size w' res v ∧ Below w.heap.size w w'

/-- the same, where a block is lent to it by the address that stands among the arguments at this place -/
def FnM (P : Program) (G : Nat → Option (List Seg)) (f : FuncId) (pos : Nat) (x : Bk) (args : List A) (res : Res) (x' : Bk) : Prop :=
  ∀ (S : Nat → Prop) (w : World) (r : Nat) (vs : List Value), r < w.heap.size → GOK G (fun q => S q ∧ q ≠ r) w → HB (fun q => S q ∧ q ≠ r) w r x → RAs (fun q => S q ∧ q ≠ r) w args vs →
    Calls P f (vs.insertIdx pos (.pointer (some ⟨r, 0, none⟩))).toArray w fun e w' => ∃ v, e = .returned v ∧ RR (fun q => S q ∧ q ≠ r) w.heap.size w' res v ∧ HB (fun q => (S q ∨ w.heap.size ≤ q) ∧ q ≠ r) w' r x' ∧ w.grownBy w' (some r)

def plainA : A → Bool | .v _ => true | _ => false
/-- no memory beneath -/
def flatA : A → Bool
  | .v _ => true
  | .agg l => l.all fun s => match s with | .gen _ l => l.all plainA | _ => true
  | _ => false
/-- an answer of a function to which an object is lent: data, or a new object -/
def RRb (S : Nat → Prop) (w w' : World) (F' N : List Nat) : Res → Value → Prop
  | .d a, v => RA (fun q => (S q ∨ w.heap.size ≤ q) ∧ q ∉ F') w' a v
  | .t l, v => ∃ vs, v = .tuple vs.toArray ∧ RAs (fun q => (S q ∨ w.heap.size ≤ q) ∧ q ∉ F') w' l vs
  | .ob p, v => ∃ r F, N = r :: F ∧ v = .pointer (some ⟨r, 0, none⟩) ∧ (∀ q ∈ r :: F, w.heap.size ≤ q ∧ q < w'.heap.size ∧ q ∉ F') ∧ p.p (fun q => ((S q ∨ w.heap.size ≤ q) ∧ q ∉ F') ∧ q ∉ N) w' (r :: F) r
  | _, _ => False
/-- what a function answers to which an object is lent -/
def FnB (P : Program) (G : Nat → Option (List Seg)) (f : FuncId) (pos : Nat) (p : OP) (args : List A) (res : Res) (p' : OP) : Prop :=
  ∀ (S : Nat → Prop) (w : World) (r : Nat) (F : List Nat) (vs : List Value), GOK G S w → (∀ q ∈ r :: F, q < w.heap.size) → p.p S w (r :: F) r → RAs S w args vs → (∀ z, S z → z ∉ r :: F) →
    Calls P f (vs.insertIdx pos (.pointer (some ⟨r, 0, none⟩))).toArray w fun e w' => ∃ v F' N, e = .returned v ∧ (∀ q ∈ F', q ∈ r :: F ∨ w.heap.size ≤ q) ∧ (∀ q ∈ r :: F', q < w'.heap.size) ∧ p'.p (fun q => ((S q ∨ w.heap.size ≤ q) ∧ q ∉ r :: F') ∧ q ∉ N) w' (r :: F') r ∧ RRb S w w' (r :: F') N res v ∧ GrownX (fun q => q ∈ r :: F) w w'
theorem plain_RG {S S' : Nat → Prop} {w w' : World} : ∀ {l : List A} {vs : List Value}, l.all plainA = true → RG S w l vs → RG S' w' l vs
  | _, _, _, .nil => .nil
  | a :: _, _, h, .cons k k1 r => by
    rw [List.all_cons, Bool.and_eq_true] at h
    refine .cons ?_ k1 (plain_RG h.2 r)
    cases k with
    | v => exact .v _
    | _ => exact absurd h.1 (by simp [plainA])
theorem flat_RL {S S' : Nat → Prop} {w w' : World} : ∀ {l : List Seg} {cs : List Value}, (l.all fun s => match s with | .gen _ l => l.all plainA | _ => true) = true → RL S w l cs → RL S' w' l cs
  | _, _, _, .nil => .nil
  | _, _, h, .ints k r => .ints k (flat_RL (by simpa using h) r)
  | _, _, h, .bytes k r => .bytes k (flat_RL (by simpa using h) r)
  | _, _, h, .bools k r => .bools k (flat_RL (by simpa using h) r)
  | _, _, h, .gen g k r => by
    rw [List.all_cons, Bool.and_eq_true] at h
    exact .gen (plain_RG h.1 g) k (flat_RL h.2 r)
theorem flat_RA {S S' : Nat → Prop} {w w' : World} {a : A} {v : Value} (h : flatA a = true) (k : RA S w a v) : RA S' w' a v := by
  cases k with
  | v => exact .v _
  | agg k => exact .agg (flat_RL (by simpa [flatA] using h) k)
  | row => cases h
  | ref => cases h
  | sref => cases h
  | recs => cases h
  | clo => cases h
end Go.Proofs.Ytanpamcecaoanaa

/-
  Operations of the machine without memory, and that what they come to is what the program's operations come to. No program is named here.
-/
namespace Go.Proofs.Ytanpamcecaoanaa
set_option maxRecDepth 100000
open Go.RowKit
set_option linter.unusedVariables false
set_option linter.unusedSimpArgs false

/-- the program, what is told of its types and of its functions -/
structure Env where
  P : Program
  Y : TypeId → Option TI
  G : Nat → Option (List Seg)
  C : FuncId → List A → (Res → Prop) → Prop
  M : FuncId → Nat → Bk → List A → (Res → Bk → Prop) → Prop
  B : FuncId → Nat → OP → List A → (Res → OP → Prop) → Prop := fun _ _ _ _ _ => False
  hY : ∀ t i, Y t = some i → TyOK P t i
  hC : ∀ f args K, C f args K → ∃ r, FnOK P G f args r ∧ K r
  hMu : ∀ f pos x args K, M f pos x args K → (∃ r x', FnM P G f pos x args r x' ∧ K r x') ∧ ∃ fn, P.funcs[f]? = some fn ∧ fn.body.isNone = false ∧ (fn.name == "runtime.NumGoroutine") = false
  hB : ∀ f pos p args K, B f pos p args K → (∃ r p', FnB P G f pos p args r p' ∧ K r p') ∧ ∃ fn, P.funcs[f]? = some fn ∧ fn.body.isNone = false ∧ (fn.name == "runtime.NumGoroutine") = false := by intro _ _ _ _ _ h; exact h.elim
  hF : ∀ f args K, C f args K → ∃ fn, P.funcs[f]? = some fn ∧ fn.body.isNone = false ∧ (fn.name == "runtime.NumGoroutine") = false
  fr : FuncId → Bool := fun _ => false
  hfr : ∀ f args K, fr f = true → C f args K → ∃ r, FnOK P G f args r ∧ FnF P G f args r ∧ K r := by intro _ _ _ h; cases h

def St.ev (s : St) : Operand → T
  | .tmp t => s.sl t
  | .const v => .d (.v v)
  | .func f => .d (.v (.func (.func f) #[] #[]))
  | .global _ => .dead

/-- what an operation writes: its slot, perhaps a block -/
abbrev KO := T → Option (Nat × Bk) → Prop

def binK (op : BinOp) (p q : A) (K : A → Prop) : Prop :=
  match p, q with
  | .v (.int k a), .v (.int k' b) =>
    (match op with
     | .add => k = k' ∧ K (.v (.int k (k.wrap (a + b))))
     | .sub => k = k' ∧ K (.v (.int k (k.wrap (a - b))))
     | .mul => k = k' ∧ K (.v (.int k (k.wrap (a * b))))
     | .quo => k = k' ∧ b ≠ 0 ∧ K (.v (.int k (k.wrap (a.tdiv b))))
     | .rem => k = k' ∧ b ≠ 0 ∧ K (.v (.int k (a.tmod b)))
     | .and => k = k' ∧ K (.v (.int k (bits .and k a b)))
     | .or => k = k' ∧ K (.v (.int k (bits .or k a b)))
     | .xor => k = k' ∧ K (.v (.int k (bits .xor k a b)))
     | .andNot => k = k' ∧ K (.v (.int k (bits .andNot k a b)))
     | .shl => ¬ b < 0 ∧ K (.v (.int k (k.wrap (a * 2 ^ (min b.toNat k.bits)))))
     | .shr => ¬ b < 0 ∧ K (.v (.int k (a.fdiv (2 ^ (min b.toNat k.bits)))))
     | .eql => k = k' ∧ K (.v (.bool (a == b)))
     | .neq => k = k' ∧ K (.v (.bool (a != b)))
     | .lss => k = k' ∧ K (.v (.bool (decide (a < b))))
     | .leq => k = k' ∧ K (.v (.bool (decide (a ≤ b))))
     | .gtr => k = k' ∧ K (.v (.bool (decide (a > b))))
     | .geq => k = k' ∧ K (.v (.bool (decide (a ≥ b)))))
  | _, _ => False

/-- n cells (a part of a type that is a struct or an array, or just one) out of segments: at a known place; or so far into what lies there -/
def rdK (l : List Seg) (agg : Bool) (n base : Nat) (K : A → Prop) : Prop :=
  if agg = true then (match cut l base n with | some m => base + n ≤ segN l ∧ K (.agg m) | none => False)
  else (match loc l base with | some (_, s, _, i) => K (s.cell i) | none => False)
def rdiK (l : List Seg) (agg : Bool) (n base rel : Nat) (K : A → Prop) : Prop :=
  match l with
  | [s] => if agg = true then base + rel + n ≤ s.n ∧ K (.agg [s.sub (base + rel) n]) else base + rel < s.n ∧ K (s.cell (base + rel))
  | l =>
  match loc l base with
  | some (_, s, _, i) => if agg = true then i + rel + n ≤ s.n ∧ K (.agg [s.sub (i + rel) n]) else i + rel < s.n ∧ K (s.cell (i + rel))
  | none => False
/-- the same, written -/
def wrK (l : List Seg) (base : Nat) (a : A) (n : Nat) (K : List Seg → Prop) : Prop :=
  match a with
  | .agg m => segN m = n ∧ (match put l base m with | some l' => K l' | none => False)
  | a => n = 1 ∧ (match loc l base with | some (p, s, q, i) => s.setK i a fun s' => K (p ++ s' :: q) | none => False)
def wriK (l : List Seg) (base rel : Nat) (a : A) (n : Nat) (K : List Seg → Prop) : Prop :=
  match loc l base with
  | some (p, s, q, i) => (match a with
    | .agg [x] => x.n = n ∧ i + rel + n ≤ s.n ∧ (match s.over (i + rel) x with | some s' => K (p ++ s' :: q) | none => False)
    | .agg _ => False
    | a => n = 1 ∧ i + rel < s.n ∧ s.setK (i + rel) a fun s' => K (p ++ s' :: q))
  | none => False

section
variable {S : Nat → Prop} {w : World}
theorem rdK_spec {l : List Seg} {agg : Bool} {n base : Nat} {K : A → Prop} (h : rdK l agg n base K) : ∃ a, K a ∧ ∀ {S : Nat → Prop} {w : World} {cs : List Value}, RL S w l cs →
    (agg = true → base + n ≤ cs.length ∧ RA S w a (.agg ((cs.drop base).take n).toArray)) ∧ (agg = false → ∃ v, cs[base]? = some v ∧ RA S w a v ∧ v.oneCell' = true) := by
  unfold rdK at h
  cases agg with
  | true =>
    simp only [if_true] at h
    cases hc : cut l base n with
    | none => rw [hc] at h; exact h.elim
    | some m =>
      rw [hc] at h
      exact ⟨_, h.2, fun hl => ⟨fun _ => ⟨by rw [hl.len]; exact h.1, .agg (hl.cut hc).1⟩, fun e => by cases e⟩⟩
  | false =>
    simp only [Bool.false_eq_true, if_false] at h
    cases hc : loc l base with
    | none => rw [hc] at h; exact h.elim
    | some x =>
      obtain ⟨p, s, q, i⟩ := x
      rw [hc] at h
      refine ⟨_, h, fun hl => ⟨fun e => (by cases e), fun _ => ?_⟩⟩
      obtain ⟨c, d, e, rfl, h1, h2, h3, h4, h5, h6⟩ := hl.found hc
      obtain ⟨v, h7, h8, h9⟩ := h2.cell i h5
      refine ⟨v, ?_, h8, h9⟩
      rw [← h4, List.getElem?_append_right (by omega), show c.length + i - c.length = i by omega, List.getElem?_append_left (by omega)]
      exact h7
theorem rdiK_spec {l : List Seg} {agg : Bool} {n base rel : Nat} {K : A → Prop} (h : rdiK l agg n base rel K) : ∃ a, K a ∧ ∀ {S : Nat → Prop} {w : World} {cs : List Value}, RL S w l cs →
    (agg = true → base + rel + n ≤ cs.length ∧ RA S w a (.agg ((cs.drop (base + rel)).take n).toArray)) ∧ (agg = false → ∃ v, cs[base + rel]? = some v ∧ RA S w a v ∧ v.oneCell' = true) := by
  unfold rdiK at h
  split at h
  · next s =>
    cases agg with
    | true =>
      simp only [if_true] at h
      refine ⟨_, h.2, fun hl => ⟨fun _ => ?_, fun e => by cases e⟩⟩
      have hlen := hl.len
      simp only [segN, Nat.add_zero] at hlen
      exact ⟨by omega, .agg (hl.sub _ n h.1)⟩
    | false =>
      simp only [Bool.false_eq_true, if_false] at h
      exact ⟨_, h.2, fun hl => ⟨fun e => (by cases e), fun _ => hl.cell _ h.1⟩⟩
  cases hc : loc l base with
  | none => rw [hc] at h; exact h.elim
  | some x =>
    obtain ⟨p, s, q, i⟩ := x
    rw [hc] at h
    simp only at h
    cases agg with
    | true =>
      simp only [if_true] at h
      refine ⟨_, h.2, fun hl => ⟨fun _ => ?_, fun e => by cases e⟩⟩
      obtain ⟨c, d, e, rfl, h1, h2, h3, h4, h5, h6⟩ := hl.found hc
      refine ⟨by simp; omega, ?_⟩
      have := h2.sub (i + rel) n h.1
      rw [← h4, List.drop_append, List.drop_of_length_le (by omega), List.nil_append, show c.length + i + rel - c.length = i + rel by omega, List.drop_append_of_le_length (by omega), List.take_append_of_le_length (by simp; omega)]
      exact .agg this
    | false =>
      simp only [Bool.false_eq_true, if_false] at h
      refine ⟨_, h.2, fun hl => ⟨fun e => (by cases e), fun _ => ?_⟩⟩
      obtain ⟨c, d, e, rfl, h1, h2, h3, h4, h5, h6⟩ := hl.found hc
      obtain ⟨v, h7, h8, h9⟩ := h2.cell (i + rel) h.1
      refine ⟨v, ?_, h8, h9⟩
      rw [← h4, List.getElem?_append_right (by omega), show c.length + i + rel - c.length = i + rel by omega, List.getElem?_append_left (by omega)]
      exact h7
theorem set_mid {c d e : List Value} {i : Nat} (v : Value) (h : i < d.length) : (c ++ (d ++ e)).take (c.length + i) ++ ([v] ++ (c ++ (d ++ e)).drop (c.length + i + 1)) = c ++ (d.set i v ++ e) := by
  rw [List.take_append, List.take_of_length_le (by omega), show c.length + i - c.length = i by omega, List.take_append_of_le_length (by omega),
    List.drop_append, List.drop_of_length_le (by omega), List.nil_append, show c.length + i + 1 - c.length = i + 1 by omega, List.drop_append_of_le_length (by omega),
    List.set_eq_take_append_cons_drop, if_pos h]
  simp
theorem setK_uni {s : Seg} {i : Nat} {a : A} {K : Seg → Prop} (h : s.setK i a K) : ∃ s', K s' ∧ ∀ {S : Nat → Prop} {w : World} {ds : List Value} {v : Value}, RL S w [s] ds → RA S w a v → RL S w [s'] (ds.set i v) ∧ v.oneCell' = true := by
  cases s with
  | ints k m zs =>
    simp only [Seg.setK] at h
    split at h
    · obtain ⟨rfl, hK⟩ := h
      exact ⟨_, hK, fun hd hv => by cases hv; obtain ⟨h1, rfl⟩ := hd.toInts; exact ⟨.ofInts (by simp [h1]) (by simp [List.map_set]), rfl⟩⟩
    · exact h.elim
  | bytes m bs =>
    simp only [Seg.setK] at h
    split at h
    · obtain ⟨rfl, h0, h2, hK⟩ := h
      exact ⟨_, hK, fun hd hv => by cases hv; obtain ⟨h1, rfl⟩ := hd.toBytes; exact ⟨.ofBytes (by simp [h1]) (by simp [HL, List.map_set, Bt_ofNatA h0 h2]), rfl⟩⟩
    · exact h.elim
  | bools m bs =>
    simp only [Seg.setK] at h
    split at h
    · exact ⟨_, h, fun hd hv => by cases hv; obtain ⟨h1, rfl⟩ := hd.toBools; exact ⟨.ofBools (by simp [h1]) (by simp [List.map_set]), rfl⟩⟩
    · exact h.elim
  | gen m asx =>
    simp only [Seg.setK] at h
    split at h
    · exact ⟨_, h.2, fun hd hv => by cases hv; obtain ⟨h1, g⟩ := hd.toGen; exact ⟨.ofGen (by simp [h1]) (g.set i (.v _) h.1), h.1⟩⟩
    · exact ⟨_, h, fun hd hv => by cases hv with | row a b c d f => obtain ⟨h1, g⟩ := hd.toGen; exact ⟨.ofGen (by simp [h1]) (g.set i (.row a b c d f) rfl), rfl⟩⟩
    · exact ⟨_, h, fun hd hv => by cases hv with | ref a b => obtain ⟨h1, g⟩ := hd.toGen; exact ⟨.ofGen (by simp [h1]) (g.set i (.ref a b) rfl), rfl⟩⟩
    · exact ⟨_, h, fun hd hv => by cases hv with | sref a b => obtain ⟨h1, g⟩ := hd.toGen; exact ⟨.ofGen (by simp [h1]) (g.set i (.sref a b) rfl), rfl⟩⟩
    · exact ⟨_, h, fun hd hv => by cases hv with | recs a b c d f => obtain ⟨h1, g⟩ := hd.toGen; exact ⟨.ofGen (by simp [h1]) (g.set i (.recs a b c d f) rfl), rfl⟩⟩
    · exact h.elim
theorem oneCells {v : Value} (hv : v.oneCell' = true) : v.cells = #[v] := by cases v <;> first | rfl | cases hv
/-- a cell of a segment that is found, overwritten -/
theorem set_found {l : List Seg} {base rel n : Nat} {a : A} {K : List Seg → Prop} {p : List Seg} {s : Seg} {q : List Seg} {i : Nat} (hc : loc l base = some (p, s, q, i)) (hn : n = 1) (hr : i + rel < s.n) (h : s.setK (i + rel) a fun s' => K (p ++ s' :: q)) :
    ∃ l', K l' ∧ ∀ {S : Nat → Prop} {w : World} {cs : List Value} {v : Value}, RL S w l cs → RA S w a v →
      v.cells.size = n ∧ (∀ u ∈ v.cells.toList, u.oneCell' = true) ∧ (base + rel + n ≤ cs.length ∨ n = 0) ∧ RL S w l' (cs.take (base + rel) ++ (v.cells.toList ++ cs.drop (base + rel + n))) := by
  subst hn
  obtain ⟨s', hK, hs⟩ := setK_uni h
  refine ⟨_, hK, fun {S w cs v} hl hv => ?_⟩
  obtain ⟨c, d, e, rfl, h1, h2, h3, h4, h5, h6⟩ := hl.found hc
  obtain ⟨k1, k2⟩ := hs h2 hv
  rw [oneCells k2]
  refine ⟨rfl, by simpa using k2, .inl (by simp; omega), ?_⟩
  rw [← h4, Nat.add_assoc]
  have := set_mid (c := c) (d := d) (e := e) (i := i + rel) v (by omega)
  rw [show (#[v] : Array Value).toList = [v] from rfl, this]
  have k3 := h1.append (k1.append h3)
  simpa using k3
theorem wrK_spec {l : List Seg} {base n : Nat} {a : A} {K : List Seg → Prop} (h : wrK l base a n K) : ∃ l', K l' ∧ ∀ {S : Nat → Prop} {w : World} {cs : List Value} {v : Value}, RL S w l cs → RA S w a v →
    v.cells.size = n ∧ (∀ u ∈ v.cells.toList, u.oneCell' = true) ∧ (base + n ≤ cs.length ∨ n = 0) ∧ RL S w l' (cs.take base ++ (v.cells.toList ++ cs.drop (base + n))) := by
  have one : ∀ (a : A), (n = 1 ∧ (match loc l base with | some (p, s, q, i) => s.setK i a fun s' => K (p ++ s' :: q) | none => False)) → ∃ l', K l' ∧ ∀ {S : Nat → Prop} {w : World} {cs : List Value} {v : Value}, RL S w l cs → RA S w a v →
      v.cells.size = n ∧ (∀ u ∈ v.cells.toList, u.oneCell' = true) ∧ (base + n ≤ cs.length ∨ n = 0) ∧ RL S w l' (cs.take base ++ (v.cells.toList ++ cs.drop (base + n))) := by
    clear h
    rintro a ⟨hn, h⟩
    cases hc : loc l base with
    | none => rw [hc] at h; exact h.elim
    | some x =>
      obtain ⟨p, s, q, i⟩ := x
      rw [hc] at h
      exact set_found (rel := 0) hc hn (loc_spec hc).2.2 h
  unfold wrK at h
  cases a with
  | agg m =>
    simp only at h
    obtain ⟨rfl, h⟩ := h
    cases hp : put l base m with
    | none => rw [hp] at h; exact h.elim
    | some l' =>
      rw [hp] at h
      refine ⟨_, h, fun hl hv => ?_⟩
      cases hv with
      | agg k =>
        have kl := k.len
        obtain ⟨k1, k2⟩ := hl.put k hp
        refine ⟨by simp [Value.cells, kl], by simpa [Value.cells] using k.one, ?_, by simpa [Value.cells, kl] using k1⟩
        rcases k2 with k2 | k2
        · left; rw [← kl]; exact k2
        · right; rw [← kl, k2]; rfl
  | v x => exact one _ h
  | row m r => exact one _ h
  | ref r o => exact one _ h
  | sref r o => exact one _ h
  | recs m z f => exact one _ h
  | clo f l => exact one _ h
theorem wriK_spec {l : List Seg} {base rel n : Nat} {a : A} {K : List Seg → Prop} (h : wriK l base rel a n K) : ∃ l', K l' ∧ ∀ {S : Nat → Prop} {w : World} {cs : List Value} {v : Value}, RL S w l cs → RA S w a v →
    v.cells.size = n ∧ (∀ u ∈ v.cells.toList, u.oneCell' = true) ∧ (base + rel + n ≤ cs.length ∨ n = 0) ∧ RL S w l' (cs.take (base + rel) ++ (v.cells.toList ++ cs.drop (base + rel + n))) := by
  unfold wriK at h
  cases hc : loc l base with
  | none => rw [hc] at h; exact h.elim
  | some x =>
    obtain ⟨p, s, q, i⟩ := x
    rw [hc] at h
    simp only at h
    cases a with
    | v x => exact set_found hc h.1 h.2.1 h.2.2
    | row m r => exact set_found hc h.1 h.2.1 h.2.2
    | ref r o => exact set_found hc h.1 h.2.1 h.2.2
    | sref r o => exact set_found hc h.1 h.2.1 h.2.2
    | recs m z f => exact set_found hc h.1 h.2.1 h.2.2
    | clo f l => exact set_found hc h.1 h.2.1 h.2.2
    | agg m =>
      match m, h with
      | [x], h =>
        simp only at h
        obtain ⟨rfl, h1, h⟩ := h
        cases hp : s.over (i + rel) x with
        | none => rw [hp] at h; exact h.elim
        | some s' =>
          rw [hp] at h
          refine ⟨_, h, fun {S w cs v} hl hv => ?_⟩
          obtain ⟨c, d, e, rfl, k1, k2, k3, k4, k5, k6⟩ := hl.found hc
          cases hv with
          | agg k =>
            rename_i ds
            have kl := k.len
            simp only [segN, Nat.add_zero] at kl
            obtain ⟨j1, j2⟩ := k2.over k (i + rel) hp h1
            refine ⟨by simp [Value.cells, kl], by simpa [Value.cells] using k.one, .inl (by simp; omega), ?_⟩
            have j3 := k1.append (j1.append k3)
            have e1 : (c ++ (d ++ e)).take (base + rel) ++ (ds ++ (c ++ (d ++ e)).drop (base + rel + x.n)) = c ++ ((d.take (i + rel) ++ (ds ++ d.drop (i + rel + ds.length))) ++ e) := by
              rw [← k4, List.take_append, List.take_of_length_le (by omega), show c.length + i + rel - c.length = i + rel by omega, List.take_append_of_le_length (by omega),
                List.drop_append, List.drop_of_length_le (by omega), List.nil_append, show c.length + i + rel + x.n - c.length = i + rel + ds.length by omega, List.drop_append_of_le_length (by omega)]
              simp
            have e2 : (Value.agg ds.toArray).cells.toList = ds := by simp [Value.cells]
            rw [e2, e1]
            simpa using j3
      | [], h => exact h.elim
      | _ :: _ :: _, h => exact h.elim
end
end Go.Proofs.Ytanpamcecaoanaa

/-
  Operations of the machine without memory: what each comes to. No program is named here.
-/
namespace Go.Proofs.Ytanpamcecaoanaa
set_option maxRecDepth 100000
open Go.RowKit
set_option linter.unusedVariables false
set_option linter.unusedSimpArgs false

def kcode : IntKind → Nat | .i8 => 1 | .i16 => 2 | .i32 => 3 | .i64 => 4 | .u8 => 5 | .u16 => 6 | .u32 => 7 | .u64 => 8
/-- which cells stand where -/
def shape : List Seg → List (Nat × Nat)
  | [] => []
  | .ints k n _ :: l => (kcode k, n) :: shape l
  | .bytes n _ :: l => (5, n) :: shape l
  | .bools n _ :: l => (100, n) :: shape l
  | .gen n _ :: l => (200, n) :: shape l
def eqSegs : List Seg → List Seg → Bool
  | [], [] => true
  | .ints _ _ a :: l, .ints _ _ b :: m => decide (a = b) && eqSegs l m
  | .bytes _ a :: l, .bytes _ b :: m => decide (a = b) && eqSegs l m
  | .bools _ a :: l, .bools _ b :: m => decide (a = b) && eqSegs l m
  | _, _ => false
def sameKind : List Seg → List Seg → Bool
  | [], [] => true
  | .ints k n _ :: l, .ints k' n' _ :: m => decide (k = k') && n == n' && sameKind l m
  | .bytes n _ :: l, .bytes n' _ :: m => n == n' && sameKind l m
  | .bools n _ :: l, .bools n' _ :: m => n == n' && sameKind l m
  | _, _ => false
def cellKind : Value → Option (Option IntKind) | .int k _ => some (some k) | .bool _ => some none | _ => none
/-- values of a type are compared cell by cell -/
def EqT (P : Program) (t : TypeId) (i : TI) : Prop :=
  P.eqGuardType P.depth t = false ∧ ∀ (w : World) (xs ys : List Value) (z : List Value), zeroB i.zero z = true → xs.map cellKind = z.map cellKind → ys.map cellKind = z.map cellKind →
    ∃ b : Bool, (Op.equalIn 10000 t (.agg xs.toArray) (.agg ys.toArray)).run P w = .ok b w ∧ (b = true ↔ xs = ys)

/-- one of two -/
def condK (b : Bool) (x y : Prop) : Prop := match b with | true => x | false => y
@[congr] theorem condK_congr {b b' : Bool} {x y : Prop} (h : b = b') : condK b x y = condK b' x y := by rw [h]
theorem condK_true (x y : Prop) : condK true x y = x := rfl
theorem condK_false (x y : Prop) : condK false x y = y := rfl
/-- reckoning stops here: at an operation; a condition; a loop; an operation whose order is open -/
structure Stop (p : Prop) : Prop where
  out : p
structure StopC (p : Prop) : Prop where
  out : p
structure StopL (p : Prop) : Prop where
  out : p
structure StopD (p : Prop) : Prop where
  out : p
structure StopE (p : Prop) : Prop where
  out : p
theorem stop_eq (p : Prop) : Stop p = p := propext ⟨Stop.out, Stop.mk⟩
theorem stopC_eq (p : Prop) : StopC p = p := propext ⟨StopC.out, StopC.mk⟩
theorem stopE_eq (p : Prop) : StopE p = p := propext ⟨StopE.out, StopE.mk⟩
theorem stopD_eq (p : Prop) : StopD p = p := propext ⟨StopD.out, StopD.mk⟩
/-- a map's entry: bytes lead to plain cells -/
def entOK (e : MapEntry) (x : List UInt8 × List Seg) : Prop := e.key = .agg (HL x.1).toArray ∧ ∃ cs : List Value, e.val = .agg cs.toArray ∧ ∀ (S : Nat → Prop) (w : World), RL S w x.2 cs
def entsOK : List MapEntry → List (List UInt8 × List Seg) → Prop
  | [], [] => True
  | e :: es, x :: l => entOK e x ∧ entsOK es l
  | _, _ => False
/-- a map of one's own: keys of N bytes each -/
def mapOP (N : Nat) (L : List (List UInt8 × List Seg)) : OP := .of fun res r => (∃ es c, res r = some (.map es c) ∧ entsOK es.toList L) ∧ ∀ x ∈ L, x.1.length = N
def getM : List (List UInt8 × List Seg) → List UInt8 → List Seg → List Seg
  | [], _, z => z
  | x :: l, ks, z => if x.1 = ks then x.2 else getM l ks z
def hasM : List (List UInt8 × List Seg) → List UInt8 → Bool
  | [], _ => false
  | x :: l, ks => if x.1 = ks then true else hasM l ks
def putM : List (List UInt8 × List Seg) → List UInt8 → List Seg → List (List UInt8 × List Seg)
  | [], ks, v => [(ks, v)]
  | x :: l, ks, v => if x.1 = ks then (ks, v) :: l else x :: putM l ks v
/-- t's keys are N bytes, its elements are of type e -/
def MapT (P : Program) (t : TypeId) (N : Nat) (e : TypeId) : Prop :=
  ∃ kt b, P.underlying t = some (.map kt e) ∧ P.underlying kt = some (.array N b) ∧ P.underlying b = some (.int .u8) ∧ (∃ i, P.info? b = some i ∧ i.size = 1) ∧ (∃ i z, P.info? e = some i ∧ i.zero = some (.agg z)) ∧
    ∀ (w : World) (x y : List UInt8), x.length = N → y.length = N → ∃ r, (Op.equal kt (.agg (HL x).toArray) (.agg (HL y).toArray)).run P w = .ok r w ∧ (r = true ↔ x = y)
structure EnvX extends Env where
  fz : Bool := false
  hE : ∀ t i, Y t = some i → i.eq = true → EqT P t i
  hM : P.follows .mixedOrders = true

/-- slices in a row, handed in -/
def rowsK (s : St) : List Pt → (List A → Prop) → Prop
  | [], K => K []
  | .dat (.row n l) :: r, K => rowsK s r fun rs => K (.row n l :: rs)
  | .dat (.v (.slice none 0 0)) :: r, K => rowsK s r fun rs => K (.row 0 [] :: rs)
  | .dat _ :: _, _ => False
  | .own b n :: r, K => (match s.bk b with | some (.sl _ _ m l) => n = m ∧ rowsK s r fun rs => K (.row n l :: rs) | _ => False)
  | .win b base n :: r, K => (match s.bk b with | some (.var l) => (match cut l base n with | some m => base + n ≤ segN l ∧ rowsK s r fun rs => K (.row n m :: rs) | none => False) | _ => False)
/-- n cells from off on, where they are told -/
def subK (l : List Seg) (off n : Nat) (K : List Seg → Prop) : Prop :=
  match l with
  | [s] => off + n ≤ s.n ∧ K [s.sub off n]
  | l => (match cut l off n with | some m => off + n ≤ segN l ∧ K m | none => False)
def argK (s : St) : List T → (List A → Bool → Prop) → Prop
  | [], K => K [] false
  | t :: r, K =>
    match t with
    | .d a => argK s r fun l b => K (a :: l) b
    | .own b n => (match s.bk b with | some (.sl _ _ m l) => n = m ∧ argK s r fun l' _ => K (.row n l :: l') true | _ => False)
    | .pre b n m => (match s.bk b with | some (.sl _ sz q l) => m = q ∧ n ≤ q ∧ sz ≠ 0 ∧ subK l 0 (n * sz) fun l1 => argK s r fun l' _ => K (.row n l1 :: l') true | _ => False)
    | .win b base n => (match s.bk b with | some (.var l) => (match cut l base n with | some m => base + n ≤ segN l ∧ argK s r fun l' _ => K (.row n m :: l') true | none => False) | _ => False)
    | .rows ps => rowsK s ps fun rs => argK s r fun l' _ => K (.row ps.length [.gen ps.length rs] :: l') true
    | .ob b => (match s.bk b with | some (.abs p) => (match p.dv with | some l => argK s r fun l' _ => K (.sref l 0 :: l') true | none => False) | _ => False)
    | _ => False
def flatRes : Res → Bool
  | .d a => flatA a
  | .o _ _ _ l => l.all fun s => match s with | .gen _ l => l.all plainA | _ => true
  | .t l => l.all flatA
  | .p (.var l) => l.all fun s => match s with | .gen _ l => l.all plainA | _ => true
  | .p (.obj _) => true
  | .p _ => false
  | .ob _ => false
def resK (fr : Nat) (k : KO) : Res → Prop
  | .d a => k (.d a) none
  | .o e sz n l => k (.own fr n) (some (fr, .sl e sz n l))
  | .t l => k (.tup l) none
  | .p x => k (.ptr fr 0) (some (fr, x))
  | .ob p => k (.ob fr) (some (fr, .abs p))
/-- the one block of one's own among arguments -/
def oneOwn (l : List T) : Option Nat := match l.flatMap T.refs with | b :: r => if r.all (fun c => c == b) = true then some b else none | [] => none
/-- an answer of a call; where a slice of one's own was lent that the answer may hold, it is one's own no more -/
def callK (bad : Bool) (ow : Option Nat) (s : St) (fr : Nat) (k : KO) (r : Res) : Prop :=
  match bad with
  | false => resK fr k r
  | true => (match ow with
    | some b => (match s.bk b with
      | some (.sl _ _ _ _) => (match r with | .d a => k (.d a) (some (b, .gone)) | .t l => k (.tup l) (some (b, .gone)) | _ => False)
      | _ => False)
    | none => False)
def boxSegs : A → Option (List Seg)
  | .agg l => some l
  | .v (.int k z) => some [.ints k 1 [z]]
  | .v (.bool b) => some [.bools 1 [b]]
  | _ => none
def fillA (off : Nat → Option (Nat × Nat)) (s : St) : List (Nat × Operand) → List Seg → (List Seg → Prop) → Prop
  | [], l, K => K l
  | (i, x) :: r, l, K =>
    match off i, s.ev x with
    | some (o, n), .d a => n ≠ 0 ∧ wrK l o a n fun l' => fillA off s r l' K
    | _, _ => False

/-- the first address of a block of one's own among arguments: its place, its block, the others -/
def lentAt : List T → Option (Nat × Nat × List T)
  | [] => none
  | t :: r => match t with
    | .ptr b 0 => some (0, b, r)
    | t => (match lentAt r with | some (i, b, l) => some (i + 1, b, t :: l) | none => none)
/-- the first object among arguments: its place, its block, the others -/
def obAt : List T → Option (Nat × Nat × List T)
  | [] => none
  | t :: r => match t with
    | .ob b => some (0, b, r)
    | t => (match obAt r with | some (i, b, l) => some (i + 1, b, t :: l) | none => none)
/-- what stands among the arguments beside an object -/
abbrev lentOK (lent : Bool) (p' : OP) (r : Res) : Prop := lent = true → (flatRes r = true ∧ p'.fl = true)
/-- what a call on an object comes to -/
def resB (fr b : Nat) (p p' : OP) (r : Res) (k : KO) : Prop :=
  match r with
  | .d a => k (.d a) (some (b, .abs p'))
  | .t l => k (.tup l) (some (b, .abs p'))
  | .ob p2 => p' = p ∧ k (.ob fr) (some (fr, .abs p2))
  | _ => False
/-- the function that a slot holds -/
def fnOf : T → Option FuncId
  | .d (.v (.func (.func f) a b)) => if a.size = 0 ∧ b.size = 0 then some f else none
  | _ => none
theorem fnOf_spec {t : T} {f : FuncId} (h : fnOf t = some f) : t = .d (.v (.func (.func f) #[] #[])) := by
  unfold fnOf at h
  split at h
  · split at h
    · next e => cases h; rw [Array.size_eq_zero_iff.1 e.1, Array.size_eq_zero_iff.1 e.2]
    · cases h
  · cases h
def flatBk : Bk → Bool
  | .var l => l.all fun s => match s with | .gen _ l => l.all plainA | _ => true
  | .obj _ => true
  | _ => false
def nolap (b : Nat) (l : List T) : Bool := l.all fun t => !t.refs.contains b
def resD (r : Res) (k : KO) : Prop := match r with | .d a => k (.d a) none | .t l => k (.tup l) none | _ => False
/-- where a package variable is looked into -/
def evG (G : Nat → Option (List Seg)) (s : St) (x : Operand) : T :=
  match x with
  | .global q => (match G q with | some l => .d (.ref l 0) | none => .dead)
  | x => s.ev x
/-- slices in a row that are data -/
def datP : List Pt → Option (List A)
  | [] => some []
  | .dat (.row n l) :: r => (datP r).map (.row n l :: ·)
  | .dat (.v (.slice none 0 0)) :: r => (datP r).map (.v (.slice none 0 0) :: ·)
  | _ => none
/-- a variable's cells, where the slice of one's own that one of them holds is told as data -/
def unh (l : List Seg) (off n : Nat) (m : List Seg) : Option (List Seg) :=
  match loc l off with
  | some (p, .gen k asx, q, i) => some (p ++ .gen k (asx.set i (.row n m)) :: q)
  | _ => none
/-- what is appended: so many elements, these cells -/
def srcK (s : St) : T → (Nat → List Seg → Prop) → Prop
  | .d (.row n l), K => K n l
  | .own b n, K => (match s.bk b with | some (.sl _ _ m l) => n = m ∧ K n l | _ => False)
  | .win b base n, K => (match s.bk b with | some (.var l) => (match cut l base n with | some m => base + n ≤ segN l ∧ K n m | none => False) | _ => False)
  | .d (.v (.slice none 0 0)), K => K 0 []
  | .d (.v (.slice (some _) 0 _)), K => K 0 []
  | .rows ps, K => (match datP ps with | some l => K ps.length [.gen ps.length l] | none => False)
  | _, _ => False
/-- cells behind cells -/
def joinS : List Seg → List Seg → List Seg
  | [], m => m
  | [.ints k n a], [.ints k' m b] => if k = k' then [.ints k (n + m) (a ++ b)] else [.ints k n a, .ints k' m b]
  | [.bytes n a], [.bytes m b] => [.bytes (n + m) (a ++ b)]
  | [.bools n a], [.bools m b] => [.bools (n + m) (a ++ b)]
  | [.gen n a], [.gen m b] => [.gen (n + m) (a ++ b)]
  | l, m => l ++ m
/-- so many times these cells -/
def manyS (m : Nat) : List Seg → List Seg
  | [.ints k n a] => [.ints k (m * n) (List.replicate m a).flatten]
  | [.bytes n a] => [.bytes (m * n) (List.replicate m a).flatten]
  | [.bools n a] => [.bools (m * n) (List.replicate m a).flatten]
  | [.gen n a] => [.gen (m * n) (List.replicate m a).flatten]
  | l => (List.replicate m l).flatten

def ptOf (s : St) : T → Option Pt
  | .d (.row n l) => some (.dat (.row n l))
  | .d (.v (.slice none 0 0)) => some (.dat (.v (.slice none 0 0)))
  | .own b n => (match s.bk b with | some (.sl _ _ m _) => if n = m then some (.own b n) else none | _ => none)
  | .win b base n => some (.win b base n)
  | _ => none
def ptsOf (s : St) : List (Nat × Operand) → Nat → Option (List Pt)
  | [], _ => some []
  | (i, x) :: r, k => if i = k then (match ptOf s (s.ev x), ptsOf s r (k + 1) with | some p, some l => some (p :: l) | _, _ => none) else none
/-- bytes asx a text -/
def strOf : List Seg → Option ByteArray
  | [] => some ByteArray.empty
  | [.bytes _ bs] => some ⟨bs.toArray⟩
  | _ => none
/-- n like cells -/
def zerosK (m : Nat) (l : List Seg) : List Seg := manyS m l
/-- a bound of a stretch -/
def bndK (s : St) (x : Option Operand) (d : Nat) (K : Nat → Prop) : Prop :=
  match x with
  | none => K d
  | some y => (match s.ev y with | .d (.v (.int .i64 z)) => 0 ≤ z ∧ K z.toNat | _ => False)
/-- what an operation comes to; fr: the number of the block that it may make -/
def opA (E : EnvX) (o : Oper) (s : St) (fr : Nat) (k : KO) : Prop :=
  match o.op with
  | .move x | .assign x => k (s.ev x) none
  | .pick c a b =>
    (match s.ev c with
     | .d (.v (.bool t)) => StopC (condK t (k (s.ev a) none) (k (s.ev b) none))
     | _ => False)
  | .binOp op t x y _ =>
    (match s.ev x, s.ev y with
     | .d (.v p), .d (.v q) =>
       (match p, q with
        | .bool a, .bool b => (∃ i, E.Y t = some i ∧ E.P.underlying t = some .bool) ∧ (match op with | .eql => k (.d (.v (.bool (a == b)))) none | .neq => k (.d (.v (.bool (!(a == b))))) none | _ => False)
        | .string a, .string b => E.P.underlying t = some .string ∧ (match op with | .eql => k (.d (.v (.bool (a.toList == b.toList)))) none | .neq => k (.d (.v (.bool (!(a.toList == b.toList))))) none | .add => a.size + b.size ≤ 281474976710656 ∧ k (.d (.v (.string (a ++ b)))) none | _ => False)
        | .pointer none, .pointer none => E.P.underlying t = some (.pointer (E.P.pointee t)) ∧ (match op with | .eql => k (.d (.v (.bool true))) none | .neq => k (.d (.v (.bool false))) none | _ => False)
        | .slice ad _ _, .slice none _ _ => E.P.underlying t = some (.slice (E.P.elem t)) ∧ (match op with | .eql => k (.d (.v (.bool ad.isNone))) none | .neq => k (.d (.v (.bool (!ad.isNone)))) none | _ => False)
        | p, q => binK op (.v p) (.v q) fun r => k (.d r) none)
     | .ptr _ _, .d (.v (.pointer none)) => E.P.underlying t = some (.pointer (E.P.pointee t)) ∧ (match op with | .eql => k (.d (.v (.bool false))) none | .neq => k (.d (.v (.bool true))) none | _ => False)
     | .ob _, .d (.v (.pointer none)) => E.P.underlying t = some (.pointer (E.P.pointee t)) ∧ (match op with | .eql => k (.d (.v (.bool false))) none | .neq => k (.d (.v (.bool true))) none | _ => False)
     | .d (.row n _), .d (.v (.slice none _ _)) => n ≠ 0 ∧ E.P.underlying t = some (.slice (E.P.elem t)) ∧ (match op with | .eql => k (.d (.v (.bool false))) none | .neq => k (.d (.v (.bool true))) none | _ => False)
     | .d (.sref _ _), .d (.v (.pointer none)) => E.P.underlying t = some (.pointer (E.P.pointee t)) ∧ (match op with | .eql => k (.d (.v (.bool false))) none | .neq => k (.d (.v (.bool true))) none | _ => False)
     | .d (.agg l), .d (.agg m) =>
       (match E.Y t with
        | some i => i.eq = true ∧ sameKind l i.zero = true ∧ sameKind m i.zero = true ∧ (match op with | .eql => k (.d (.v (.bool (eqSegs l m)))) none | .neq => k (.d (.v (.bool (!eqSegs l m)))) none | _ => False)
        | none => False)
     | _, _ => False)
  | .unOp op _ x => (match op, s.ev x with | .not, .d (.v (.bool b)) => k (.d (.v (.bool (!b)))) none | .neg, .d (.v (.int q z)) => k (.d (.v (.int q (q.wrap (0 - z))))) none | _, _ => False)
  | .alloc e => (match E.Y e with | some i => k (.ptr fr 0) (some (fr, .var i.zero)) | none => False)
  | .box e x => (match s.ev x with | .d a => (match boxSegs a with | some l => k (.ptr fr 0) (some (fr, .var l)) | none => False) | .ptr 0 0 => (match s.bk 0 with | some (.var _) => k (.bxp fr 0) (some (fr, .bx)) | _ => False) | _ => False)
  | .load t x =>
    (match E.Y t with
     | none => False
     | some i => (match evG E.G s x with
       | .ptr b base => (match s.bk b with
         | some (.var l) => rdK l i.agg i.sz base fun a => k (.d a) none
         | some (.vh l off true e sz n m) => (match base == off && i.sl with
           | true => base = off ∧ i.sl = true ∧ k (.hsl b n) none
           | false => (match unh l off n m with | some l' => rdK l' i.agg i.sz base fun a => k (.d a) (some (b, .var l')) | none => False))
         | _ => False)
       | .pti b base rel => (match s.bk b with | some (.var l) => rdiK l i.agg i.sz base rel fun a => k (.d a) none | _ => False)
       | .ept b n off => (match s.bk b with | some (.sl _ _ m l) => n = m ∧ rdiK l i.agg i.sz 0 off fun a => k (.d a) none | _ => False)
       | .d (.ref l off) => (i.agg = true → i.sz ≠ 0) ∧ rdiK l i.agg i.sz 0 off fun a => k (.d a) none
       | .d (.sref l off) => (i.agg = true → i.sz ≠ 0) ∧ rdK l i.agg i.sz off fun a => k (.d a) none
       | .bxp b 0 => (match s.bk b with | some .bx => i.sz = 1 ∧ i.agg = false ∧ k (.ptr 0 0) none | _ => False)
       | _ => False))
  | .store t x y =>
    (match E.Y t with
     | none => False
     | some i => (match s.ev x, s.ev y with
       | .ptr b base, .d a => (match s.bk b with
         | some (.var l) => wrK l base a i.sz fun l' => k (.d (.v undef)) (some (b, .var l'))
         | some (.vh l off true e sz n m) => (match unh l off n m with | some l1 => wrK l1 base a i.sz fun l' => k (.d (.v undef)) (some (b, .var l')) | none => False)
         | _ => False)
       | .ptr b base, .hsl b' n' => (match s.bk b with
         | some (.vh l off p e sz n m) => b' = b ∧ base = off ∧ n' = n ∧ i.sz = 1 ∧ k (.d (.v undef)) (some (b, .vh l off true e sz n m))
         | _ => False)
       | .pti b base rel, .d a => (match s.bk b with | some (.var l) => wriK l base rel a i.sz fun l' => k (.d (.v undef)) (some (b, .var l')) | _ => False)
       | .ept b n off, .d a => (match s.bk b with | some (.sl e sz m l) => n = m ∧ n * sz = segN l ∧ i.sz ≠ 0 ∧ wriK l 0 off a i.sz fun l' => k (.d (.v undef)) (some (b, .sl e sz m l')) | _ => False)
       | _, _ => False))
  | .fieldAddr t x f =>
    (match E.Y t with
     | none => False
     | some i => (match i.fld[f]? with
       | none => False
       | some off => (match s.ev x with
         | .ptr b base => k (.ptr b (base + off)) none
         | .pti b base rel => k (.pti b base (rel + off)) none
         | .ept b n o => (match s.bk b with | some (.sl _ _ m _) => n = m ∧ k (.ept b n (o + off)) none | _ => False)
         | .d (.ref l o) => k (.d (.ref l (o + off))) none
         | .d (.sref l o) => k (.d (.sref l (o + off))) none
         | _ => False)))
  | .indexAddr t x ix =>
    (match E.Y t with
     | none => False
     | some i => i.esz ≠ 0 ∧ (match s.ev ix with
       | .d (.v (.int _ z)) => (match evG E.G s x with
         | .ptr b base => i.len ≠ 0 ∧ 0 ≤ z ∧ z < (i.len : Int) ∧ k (.pti b base (z.toNat * i.esz)) none
         | .pti b base rel => i.len ≠ 0 ∧ 0 ≤ z ∧ z < (i.len : Int) ∧ k (.pti b base (rel + z.toNat * i.esz)) none
         | .d (.ref l off) => i.len ≠ 0 ∧ 0 ≤ z ∧ z < (i.len : Int) ∧ k (.d (.ref l (off + z.toNat * i.esz))) none
         | .d (.sref l off) => i.len ≠ 0 ∧ 0 ≤ z ∧ z < (i.len : Int) ∧ (match loc l off with | some (_, sg, _, rel) => k (.d (.ref [sg] (rel + z.toNat * i.esz))) none | none => False)
         | .d (.row n l) => i.sl = true ∧ 0 ≤ z ∧ z < (n : Int) ∧ n * i.esz = segN l ∧ k (.d (.ref l (z.toNat * i.esz))) none
         | .d (.recs n sz f) => i.sl = true ∧ 0 ≤ z ∧ z < (n : Int) ∧ sz = i.esz ∧ k (.d (.sref (f z.toNat) 0)) none
         | .ept b n off => (match s.bk b with | some (.sl _ _ m _) => n = m ∧ i.len ≠ 0 ∧ 0 ≤ z ∧ z < (i.len : Int) ∧ k (.ept b n (off + z.toNat * i.esz)) none | _ => False)
         | .own b n => (match s.bk b with | some (.sl e sz m l) => i.sl = true ∧ 0 ≤ z ∧ z < (n : Int) ∧ n = m ∧ n * i.esz = segN l ∧ k (.ept b n (z.toNat * i.esz)) none | _ => False)
         | .win b base n => i.sl = true ∧ 0 ≤ z ∧ z < (n : Int) ∧ k (.pti b base (z.toNat * i.esz)) none
         | _ => False)
       | _ => False))
  | .index t x ix =>
    (match E.Y t with
     | none => False
     | some i => i.esz ≠ 0 ∧ i.len ≠ 0 ∧ (match s.ev x, s.ev ix, E.Y i.elem with
       | .d (.agg l), .d (.v (.int _ z)), some j => 0 ≤ z ∧ z < (i.len : Int) ∧ rdiK l j.agg i.esz 0 (z.toNat * i.esz) fun a => k (.d a) none
       | _, _, _ => False))
  | .field t x f =>
    (match E.Y t with
     | none => False
     | some i => (match i.fld[f]?, i.fty[f]?, s.ev x with
       | some off, some ft, .d (.agg l) => (match E.Y ft with | some j => rdK l j.agg j.sz off fun a => k (.d a) none | none => False)
       | _, _, _ => False))
  | .build t parts =>
    (match E.Y t with
     | none => False
     | some i => i.agg = true ∧ (i.esz ≠ 0 → i.len ≠ 0) ∧ fillA (fun f => if i.esz = 0 then i.plc[f]? else some (f * i.esz, i.esz)) s parts.toList i.zero fun l => k (.d (.agg l)) none)
  | .convert src dst x =>
    (match E.Y src, E.Y dst, s.ev x with
     | some _, some i, .d (.v (.int _ z)) => (match i.knd with | some q => k (.d (.v (.int q (q.wrap z)))) none | none => False)
     | some _, some i, .d (.v (.string b)) => i.sl = true ∧ E.P.underlying src = some .string ∧ E.P.underlying i.elem = some (.int .u8) ∧ b.size ≤ 1000000000 ∧ k (.d (.row b.size [.bytes b.size b.data.toList])) none
     | some i, some _, y => i.sl = true ∧ E.P.underlying i.elem = some (.int .u8) ∧ E.P.underlying dst = some .string ∧ argK s [y] fun l _ => (match l with
       | [.row m news] => (match strOf news with | some b => b.size = m ∧ m ≤ 140737488355328 ∧ k (.d (.v (.string b))) none | none => False)
       | [.v (.slice none 0 0)] => k (.d (.v (.string .empty))) none
       | _ => False)
     | _, _, _ => False)
  | .slice t x lo hi mx =>
    (match E.Y t, s.ev x, lo, hi, mx with
     | some i, .ptr b base, none, none, none => i.len ≠ 0 ∧ i.esz = 1 ∧ i.len ≤ 1000000 ∧ k (.win b base i.len) none
     | some i, .ptr b base, none, some y, none => i.len ≠ 0 ∧ i.esz = 1 ∧ i.len ≤ 1000000 ∧ (match s.ev y with | .d (.v (.int .i64 z)) => 0 ≤ z ∧ z.toNat ≤ i.len ∧ k (.win b base z.toNat) none | _ => False)
     | some i, .pti b base rel, none, none, none => i.len ≠ 0 ∧ i.esz = 1 ∧ i.len ≤ 1000000 ∧ k (.win b (base + rel) i.len) none
     | some i, .d (.row n l), lo, hi, none => i.sl = true ∧ i.esz ≠ 0 ∧ bndK s lo 0 fun a => bndK s hi n fun b => a ≤ b ∧ b ≤ n ∧ subK l (a * i.esz) ((b - a) * i.esz) fun m => k (.d (.row (b - a) m)) none
     | some i, .own b n, none, hi, none => i.sl = true ∧ i.esz ≠ 0 ∧ (match s.bk b with | some (.sl _ _ q l) => n = q ∧ bndK s hi n fun c => c ≤ n ∧ k (.pre b c n) none | _ => False)
     | _, _, _, _, _ => False)
  | .call c =>
    (match c.callee with
     | .value x => (match fnOf (s.ev x) with
       | some f =>
         (match lentAt (c.args.toList.map s.ev) with
          | none => (match obAt (c.args.toList.map s.ev) with
            | none => argK s (c.args.toList.map s.ev) fun l lent => E.C f l fun r => callK (lent && !(flatRes r || E.fr f)) (oneOwn (c.args.toList.map s.ev)) s fr k r
            | some (pos, b, rest) => (match s.bk b with
              | some (.abs p) => nolap b rest = true ∧ argK s rest fun l lent => E.B f pos p l fun r p' => lentOK lent p' r ∧ resB fr b p p' r k
              | _ => False))
          | some (pos, b, rest) => (match s.bk b with
            | some (.obj p) => nolap b rest = true ∧ argK s rest fun l lent => E.M f pos (.obj p) l fun r x' => x' = .obj p ∧ (lent = true → flatRes r = true) ∧ resD r k
            | some (.var l0) => nolap b rest = true ∧ argK s rest fun l lent => E.M f pos (.var l0) l fun r x' => (lent = true → flatRes r = true) ∧ (lent = true → flatBk x' = true) ∧ resD r fun t _ => k t (some (b, x'))
            | _ => False))
       | none => (match s.ev x with
         | .d (.clo f cs) => argK s (c.args.toList.map s.ev) fun l _ => E.C f (l ++ cs) fun r => (match r with | .d a => flatA a = true ∧ k (.d a) none | _ => False)
         | _ => False))
     | .builtin .append =>
       (match c.args.toList, c.argTypes.toList with
        | [x, y], [t, t'] => t = t' ∧ (match E.Y t with
          | some i => i.sl = true ∧ i.esz ≠ 0 ∧ (match E.Y i.elem with
            | some j => j.bytes ≠ 0 ∧ segN j.zero = i.esz ∧ srcK s (s.ev y) fun m news => segN news = m * i.esz ∧ (match s.ev x with
              | .own b n => (match s.bk b with
                | some (.sl e sz q l) => n = q ∧ e = i.elem ∧ sz = i.esz ∧ (n + m) * j.bytes ≤ 140737488355328 ∧ k (.own b (n + m)) (some (b, .sl e sz (n + m) (joinS l news)))
                | _ => False)
              | .hsl b n => (match s.bk b with
                | some (.vh l off p e sz q m0) => n = q ∧ e = i.elem ∧ sz = i.esz ∧ (n + m) * j.bytes ≤ 140737488355328 ∧ k (.hsl b (n + m)) (some (b, .vh l off false e sz (n + m) (joinS m0 news)))
                | _ => False)
              | .d (.v (.slice none 0 0)) => m * j.bytes ≤ 140737488355328 ∧ k (.own fr m) (some (fr, .sl i.elem i.esz m news))
              | _ => False)
            | none => False)
          | none => False)
        | _, _ => False)
     | .builtin .copy =>
       (match c.args.toList, c.argTypes.toList with
        | [x, y], [t, _] => (match E.Y t with
          | some i => i.sl = true ∧ i.esz = 1 ∧ srcK s (s.ev y) fun m news => segN news = m ∧ (match s.ev x with
            | .win b base n => (match s.bk b with
              | some (.var l) => m ≤ n ∧ wrK l base (.agg news) m fun l' => k (.d (.v (.int .i64 m))) (some (b, .var l'))
              | _ => False)
            | _ => False)
          | none => False)
        | _, _ => False)
     | .builtin .min =>
       (match c.args.toList.map s.ev with
        | [.d (.v (.int q x)), .d (.v (.int _ y))] => k (.d (.v (.int q (if y < x then y else x)))) none
        | _ => False)
     | .builtin .max =>
       (match c.args.toList.map s.ev with
        | [.d (.v (.int q x)), .d (.v (.int _ y))] => k (.d (.v (.int q (if y > x then y else x)))) none
        | _ => False)
     | .builtin .len =>
       (match c.args.toList, c.argTypes.toList with
        | [x], [t] => (match s.ev x with
         | .d (.v (.string b)) => E.P.underlying t = some .string ∧ k (.d (.v (.int .i64 b.size))) none
         | y => (match E.Y t with
          | some i => i.sl = true ∧ (match y with
            | .d (.row n _) => k (.d (.v (.int .i64 n))) none
            | .d (.recs n _ _) => k (.d (.v (.int .i64 n))) none
            | .own b n => (match s.bk b with | some (.sl _ _ m _) => n = m ∧ k (.d (.v (.int .i64 n))) none | _ => False)
            | .win _ _ n => k (.d (.v (.int .i64 n))) none
            | .d (.v (.slice none 0 0)) => k (.d (.v (.int .i64 0))) none
            | .d (.v (.slice (some _) n _)) => k (.d (.v (.int .i64 n))) none
            | _ => False)
          | none => False))
        | _, _ => False)
     | _ => False)
  | .extract x i => (match s.ev x with | .tup l => (match l[i]? with | some a => k (.d a) none | none => False) | _ => False)
  | .nilCheck x => (match s.ev x with | .ptr b base => k (.ptr b base) none | .pti b base rel => k (.pti b base rel) none | .d (.ref l q) => k (.d (.ref l q)) none | .d (.sref l q) => k (.d (.sref l q)) none | _ => False)
  | .makeSlice t x y =>
    (match E.Y t, s.ev x, s.ev y with
     | some i, .d (.v (.int _ n)), .d (.v (.int _ c)) => i.sl = true ∧ i.esz ≠ 0 ∧ n = c ∧ 0 ≤ n ∧ n.toNat * i.esz ≤ 16777216 ∧ (match E.Y i.elem with
       | some j => segN j.zero = i.esz ∧ j.bytes * n.toNat ≤ 281474976710656 ∧ (match E.fz with | true => k (.d (.row n.toNat (zerosK n.toNat j.zero))) none | false => k (.own fr n.toNat) (some (fr, .sl i.elem i.esz n.toNat (zerosK n.toNat j.zero))))
       | none => False)
     | _, _, _ => False)
  | .buildSlice t len parts =>
    (match E.Y t with
     | none => False
     | some i => i.sl = true ∧ i.esz ≠ 0 ∧ (match len with
      | 0 => parts.toList = [] ∧ (match E.Y i.elem with | some j => k (.own fr 0) (some (fr, .sl i.elem i.esz 0 (manyS 0 j.zero))) | none => False)
      | _ + 1 => len ≠ 0 ∧ len * i.esz ≤ 16777216 ∧ (match E.Y i.elem with
       | some j => (match j.sl with
         | true => i.esz = 1 ∧ (match ptsOf s parts.toList 0 with | some ps => ps.length = len ∧ segN j.zero = 1 ∧ (match E.fz with | true => (match datP ps with | some l => k (.d (.row len [.gen len l])) none | none => False) | false => k (.rows ps) none) | none => False)
         | false => segN j.zero = i.esz ∧ fillA (fun f => some (f * i.esz, i.esz)) s parts.toList (manyS len j.zero) fun l => (match E.fz with | true => k (.d (.row len l)) none | false => k (.own fr len) (some (fr, .sl i.elem i.esz len l))))
       | none => False)))
  | .sliceToArrayPointer t x => (match E.Y t, s.ev x with | some i, .d (.row n l) => i.len ≠ 0 ∧ i.len ≤ n ∧ segN l ≠ 0 ∧ k (.d (.sref l 0)) none | _, _ => False)
  | _ => False
end Go.Proofs.Ytanpamcecaoanaa

/-
  The operations of the machine without memory are the program's. No program is named here.
-/
namespace Go.Proofs.Ytanpamcecaoanaa
set_option maxRecDepth 100000
open Go.RowKit
set_option linter.unusedVariables false
set_option linter.unusedSimpArgs false

def St.app (s : St) (dst : Option Nat) (t : T) (blk : Option (Nat × Bk)) : St :=
  ⟨match dst with | some d => s.t.set d t | none => s.t, match blk with | some (b, x) => s.h.set b (some x) | none => s.h⟩

section
variable {S : Nat → Prop} {base : Nat} {G : Nat → Option (List Seg)} {w0 : W0 G} {s : St} {ρ : Nat → Option Value} {a : Act} {w : World} {P : Program}

theorem Good.ev (g : Good S base w0 s ρ a w) (x : Operand) : RT (Dt S base ρ) ρ w (s.ev x) (a.eval x) := by
  cases x with
  | tmp i =>
    by_cases hi : i < a.tmps.size
    · exact g.t i hi
    · have : s.ev (.tmp i) = .dead := by
        show s.t.getD i .dead = .dead
        rw [List.getD_eq_getElem?_getD, List.getElem?_eq_none (by rw [g.len]; exact Nat.le_of_not_lt hi)]; rfl
      rw [this]; trivial
  | const v => exact .v v
  | func f => exact .v _
  | global g => trivial
theorem Good.evRefs (g : Good S base w0 s ρ a w) (x : Operand) : ∀ b ∈ (s.ev x).refs, s.bk b ≠ none := by
  cases x with
  | tmp i => exact g.dang i
  | const v => intro b hb; simp [St.ev, T.refs] at hb
  | func f => intro b hb; simp [St.ev, T.refs] at hb
  | global g => intro b hb; simp [St.ev, T.refs] at hb

/-- an operation that only gives a value -/
theorem pure_op {o : Oper} {K : Act → World → Prop} {Q : Exit → Act → World → Prop} (g : Good S base w0 s ρ a w) {v : Value} {t : T} (hr : (execOp a.eval o).run P w = .ok (.value v) w)
    (ht : RT (Dt S base ρ) ρ w t v) (hrefs : ∀ b ∈ t.refs, s.bk b ≠ none) (hK : ∀ a' w' ρ', Good S base w0 (s.app o.dst t none) ρ' a' w' → K a' w') : o.wp P a w K Q := by
  unfold Oper.wp
  rw [hr]
  exact hK _ _ ρ (g.put' o.dst ht hrefs)

theorem run_loadVar_agg {t : TypeId} {i : TI} (hY : TyOK P t i) (ha : i.agg = true) {r off : Nat} {cs : List Value} (hl : cs.length = i.sz) (hc : ∀ j (h : j < cs.length), w.cell? ⟨r, off + j, none⟩ = some cs[j]) :
    (loadVar t ⟨r, off, none⟩).run P w = .ok (.agg cs.toArray) w := by
  obtain ⟨f, z, hf, hs, _⟩ := hY.info
  obtain ⟨d, hd⟩ := hY.und
  have hag : (isAgg t).run P w = .ok true w := by
    have h1 := hY.agg
    unfold aggOf at h1
    rw [hd, ha] at h1
    unfold isAgg
    rw [Sem.run_bind, run_underlying hd w]
    cases d <;> simp_all
  have hl2 := run_loadCells_list (P := P) w ⟨r, off, none⟩ cs (fun j v hj => by
    have hadd : (⟨r, off, none⟩ : Addr).add j = ⟨r, off + j, none⟩ := by unfold Addr.add; split <;> simp_all
    have hlt := (List.getElem?_eq_some_iff.1 hj).1
    rw [hadd, hc j hlt, ← hj, List.getElem?_eq_getElem hlt])
  simp only [loadVar, Sem.run_bind, hag, Result.andThen_ok, if_true, run_sizeOf w hf]
  rw [show P.cellsOf t = cs.length by simp [Program.cellsOf, hf, hs, hl], hl2]
  simp
theorem run_loadVar_one {t : TypeId} {i : TI} (hY : TyOK P t i) (ha : i.agg = false) {r off : Nat} {v : Value} (hc : w.cell? ⟨r, off, none⟩ = some v) :
    (loadVar t ⟨r, off, none⟩).run P w = .ok v w := by
  obtain ⟨d, hd⟩ := hY.und
  have hag : (isAgg t).run P w = .ok false w := by
    have h1 := hY.agg
    unfold aggOf at h1
    rw [hd, ha] at h1
    unfold isAgg
    rw [Sem.run_bind, run_underlying hd w]
    cases d <;> simp_all
  simp only [loadVar, Sem.run_bind, hag, Result.andThen_ok, Bool.false_eq_true, if_false]
  simp [load, Sem.run, hc]
theorem cells_of {r : Nat} {cs : List Value} {t : TypeId} {fr : Nat × Nat} (h : w.heap[r]? = some (.cells cs.toArray t fr)) (j : Nat) : w.cell? ⟨r, j, none⟩ = cs[j]? := by
  rw [cell_of_row w r j _ t fr h]; simp
/-- a part of cells that lie in a block is loaded -/
theorem run_load_part {t : TypeId} {i : TI} (hY : TyOK P t i) {D : Nat → Prop} {r o off : Nat} {cs : List Value} {x : A} (hc : ∀ j (h : j < cs.length), w.cell? ⟨r, o + j, none⟩ = some cs[j])
    (hx : (i.agg = true → off + i.sz ≤ cs.length ∧ RA D w x (.agg ((cs.drop off).take i.sz).toArray)) ∧ (i.agg = false → ∃ v, cs[off]? = some v ∧ RA D w x v ∧ v.oneCell' = true)) :
    ∃ v, (loadVar t ⟨r, o + off, none⟩).run P w = .ok v w ∧ RA D w x v := by
  cases ha : i.agg with
  | true =>
    obtain ⟨h1, h2⟩ := hx.1 ha
    refine ⟨_, run_loadVar_agg hY ha (cs := (cs.drop off).take i.sz) (by simp; omega) (fun j hj => ?_), h2⟩
    have hj' : j < i.sz := by simp at hj; omega
    rw [Nat.add_assoc, hc (off + j) (by omega)]
    simp
  | false =>
    obtain ⟨v, h1, h2, h3⟩ := hx.2 ha
    obtain ⟨h4, h5⟩ := List.getElem?_eq_some_iff.1 h1
    exact ⟨v, run_loadVar_one hY ha (by rw [hc off h4, h5]), h2⟩

theorem exec_load {o : Oper} {t : TypeId} {x : Operand} (ho : o.op = .load t x) {r off : Nat} (hx : a.eval x = .pointer (some ⟨r, off, none⟩)) {v : Value} (hr : (loadVar t ⟨r, off, none⟩).run P w = .ok v w) :
    (execOp a.eval o).run P w = .ok (.value v) w := by
  simp [execOp, ho, hx, Instr.loadAt, Instr.sureAddr, Sem.run_bind, hr]

/-- an own variable's cells -/
theorem Good.var (g : Good S base w0 s ρ a w) {b : Nat} {l : List Seg} (h : s.bk b = some (.var l)) :
    ∃ r cs t, ρ b = some (.pointer (some ⟨r, 0, none⟩)) ∧ True ∧ w.heap[r]? = some (.cells (List.toArray cs) t (0, 0)) ∧ RL (Dt S base ρ) w l cs := by
  have := g.b b; rw [h] at this; exact this
theorem Good.slc (g : Good S base w0 s ρ a w) {b : Nat} {e : TypeId} {sz n : Nat} {l : List Seg} (h : s.bk b = some (.sl e sz n l)) :
    ∃ u cs, ρ b = some u ∧ w.ownsRow base e sz u n cs ∧ RL (Dt S base ρ) w l cs := by
  have := g.b b; rw [h] at this; exact this

/-- a new variable -/
theorem Good.alloc (g : Good S base w0 s ρ a w) {fr : Nat} (hfr : s.bk fr = none) (hlt : fr < s.h.length) {l : List Seg} {cs : List Value} {ty : TypeId}
    (hl : ∀ D' w', Keeps (Dt S base ρ) w D' w' → RL D' w' l cs) :
    Good S base w0 ⟨s.t, s.h.set fr (some (.var l))⟩ (upd ρ fr (some (.pointer (some ⟨w.heap.size, 0, none⟩)))) a (w.alloc (.cells cs.toArray ty)) := by
  have hρ : ρ fr = none := by have := g.b fr; rw [hfr] at this; exact this
  refine g.change fr hlt _ _ none ⟨rfl, rfl, rfl, by rw [size_alloc]; omega, fun k hk _ => Below.heap_alloc _ _ _ hk⟩ (by simp) ?_ ?_ ?_ (fun q hq => by rw [hρ] at hq; cases hq)
  · intro r hr
    simp [Rl] at hr; subst hr
    exact ⟨.inl (Nat.le_refl _), by rw [size_alloc]; omega⟩
  · intro K
    exact ⟨w.heap.size, cs, ty, by simp [upd], trivial, heap_alloc_new _ _, hl _ _ K⟩
  · intro _ i hi hm
    exact absurd hfr (g.dang i fr hm)

/-- an own variable is written -/
theorem Good.store (g : Good S base w0 s ρ a w) {b : Nat} {l l' : List Seg} (h : s.bk b = some (.var l)) {r off : Nat} {cs vs : List Value} {t : TypeId} (hρ : ρ b = some (.pointer (some ⟨r, 0, none⟩)))
    (hw : w.heap[r]? = some (.cells cs.toArray t (0, 0))) (hl : RL (Dt S base ρ) w l' (cs.take off ++ (vs ++ cs.drop (off + vs.length)))) :
    Good S base w0 ⟨s.t, s.h.set b (some (.var l'))⟩ ρ a (w.setRow r (cs.take off ++ (vs ++ cs.drop (off + vs.length))).toArray) := by
  have hlt : b < s.h.length := by
    apply Decidable.byContradiction
    intro hn
    unfold St.bk at h
    rw [List.getD_eq_getElem?_getD, List.getElem?_eq_none (by omega)] at h
    cases h
  have hu : upd ρ b (some (.pointer (some ⟨r, 0, none⟩))) = ρ := by
    funext i; unfold upd; split
    · next e => rw [e, hρ]
    · rfl
  have := g.change b hlt (.pointer (some ⟨r, 0, none⟩)) (.var l') (some r) (w' := w.setRow r (cs.take off ++ (vs ++ cs.drop (off + vs.length))).toArray)
    (grown_setRow (grown_refl w _) _ (.inr rfl)) (by intro r' e; cases e; exact ⟨_, hρ, rfl⟩) (by
      intro r' e
      simp [Rl] at e; subst e
      exact ⟨.inr ⟨_, hρ, rfl⟩, by rw [size_setRow]; exact (g.low b _ r hρ rfl).2⟩) (by
      rw [hu]
      intro K
      refine ⟨r, _, t, hρ, trivial, setRow_heap _ _ _ _ _ _ hw, hl.up K⟩) (by
      rw [hu]
      intro _ i hi hm
      refine (g.t i hi).up ⟨by rw [size_setRow]; exact Nat.le_refl _, fun r' hr' hd => ⟨hd, fun o => ?_⟩⟩ (fun _ _ => rfl)
      exact World.cell?_of_block (setRow_other _ _ _ _ (fun e => hd.2 b _ hρ (by simp [Rl]; exact e.symm)))) (fun q hq => by rw [hρ] at hq; cases hq; rfl)
  rwa [hu] at this
theorem bk_lt {s : St} {b : Nat} {x : Bk} (h : s.bk b = some x) : b < s.h.length := by
  apply Decidable.byContradiction
  intro hn
  unfold St.bk at h
  rw [List.getD_eq_getElem?_getD, List.getElem?_eq_none (by omega)] at h
  cases h
theorem run_storeVar_at {t : TypeId} {i : TI} (hY : TyOK P t i) {v : Value} (hs : v.cells.size = i.sz) (h1 : ∀ u ∈ v.cells.toList, u.oneCell' = true) {r off : Nat} {cs : List Value} {ty : TypeId}
    (hw : w.heap[r]? = some (.cells cs.toArray ty (0, 0))) (hl : off + i.sz ≤ cs.length ∨ i.sz = 0) :
    (storeVar t ⟨r, off, none⟩ v).run P w = .ok () (w.setRow r (cs.take off ++ (v.cells.toList ++ cs.drop (off + v.cells.toList.length))).toArray) := by
  obtain ⟨f, z, hf, hs2, _⟩ := hY.info
  have hsz : P.cellsOf t = v.cells.size := by simp [Program.cellsOf, hf, hs2, hs]
  simp only [storeVar, Sem.run_bind, run_sizeOf w hf, Result.andThen_ok, hsz]
  simp only [ne_eq, not_true_eq_false, if_false, Sem.run_pure, Result.andThen_ok]
  rcases hl with hl | hl
  · have := run_storeCells_at (P := P) r off ty v.cells.toList 0 cs.toArray w hw (by simp; omega) h1
    rw [this]
    simp
  · have hn : v.cells.toList = [] := by
      have : v.cells.toList.length = 0 := by rw [Array.length_toList, hs, hl]
      exact List.length_eq_zero_iff.1 this
    rw [hn]
    simp only [storeCells, Sem.run_pure, List.nil_append, List.length_nil, Nat.add_zero, List.take_append_drop]
    rw [setRow_self w r _ ty (0, 0) hw]
end
end Go.Proofs.Ytanpamcecaoanaa

/-
  The operations of the machine without memory are the program's, one by one. No program is named here.
-/
namespace Go.Proofs.Ytanpamcecaoanaa
set_option maxRecDepth 100000
open Go.RowKit
set_option linter.unusedVariables false
set_option linter.unusedSimpArgs false

/-- the blocks that an operation looks into: who only reckons an address looks into none -/
def seen (o : Oper) (t : T) : List Nat :=
  match o.op, t with
  | .move _, _ => []
  | .assign _, _ => []
  | .fieldAddr _ _ _, .ptr _ _ => []
  | .fieldAddr _ _ _, .pti _ _ _ => []
  | .indexAddr _ _ _, .ptr _ _ => []
  | .indexAddr _ _ _, .pti _ _ _ => []
  | .nilCheck _, .ptr _ _ => []
  | .nilCheck _, .pti _ _ _ => []
  | _, t => t.refs
/-- what an operation sees is there asx it was -/
def Same (o : Oper) (s s' : St) : Prop := ∀ x ∈ o.op.operands, s'.ev x = s.ev x ∧ ∀ b ∈ seen o (s.ev x), s'.bk b = s.bk b
def looks (o : Oper) : Bool := match o.op with | .move _ | .assign _ | .fieldAddr _ _ _ | .indexAddr _ _ _ | .nilCheck _ => false | _ => true
theorem seen_all {o : Oper} (h : looks o = true) (t : T) : seen o t = t.refs := by
  unfold looks at h
  unfold seen
  split at h
  · cases h
  · cases h
  · cases h
  · cases h
  · cases h
  · next h1 h2 h3 h4 h5 =>
    split
    · next e => exact (h1 _ e).elim
    · next e => exact (h2 _ e).elim
    · next e => exact (h3 _ _ _ e).elim
    · next e => exact (h3 _ _ _ e).elim
    · next e => exact (h4 _ _ _ e).elim
    · next e => exact (h4 _ _ _ e).elim
    · next e => exact (h5 _ e).elim
    · next e => exact (h5 _ e).elim
    · rfl
theorem Same.bk {o : Oper} {s s' : St} (hs : Same o s s') {x : Operand} (hx : x ∈ o.op.operands) (hl : looks o = true) {b : Nat} (hb : b ∈ (s.ev x).refs) : s'.bk b = s.bk b := (hs x hx).2 b (by rw [seen_all hl]; exact hb)
/-- the operation comes to t, and to this block: wherever what it sees is there -/
def OpOK (E : EnvX) (o : Oper) (s : St) (fr : Nat) (t : T) (blk : Option (Nat × Bk)) : Prop :=
  (∀ b ∈ t.refs, b = fr ∧ (∃ x, blk = some (fr, x)) ∨ ∃ x ∈ o.op.operands, b ∈ (s.ev x).refs) ∧
  (∀ b x, blk = some (b, x) → b = fr ∨ ∃ x ∈ o.op.operands, b ∈ (s.ev x).refs) ∧
  ∀ (S : Nat → Prop) (base : Nat) (w0 : W0 E.G) (s' : St) (ρ : Nat → Option Value) (a : Act) (w : World) (K : Act → World → Prop) (Q : Exit → Act → World → Prop),
    Same o s s' → Good S base w0 s' ρ a w → s'.bk fr = none → fr < s'.h.length → (∀ a' w' ρ', Good S base w0 (s'.app o.dst t blk) ρ' a' w' → K a' w') → o.wp E.P a w K Q

theorem RA.plain {S : Nat → Prop} {w : World} {x v : Value} (h : RA S w (.v x) v) : v = x := by cases h; rfl

section
variable {E : EnvX} {o : Oper} {s : St} {fr : Nat}

/-- an operation that only gives a value, out of what it sees -/
theorem OpOK.pure {t : T} (hrefs : ∀ b ∈ t.refs, ∃ x ∈ o.op.operands, b ∈ (s.ev x).refs)
    (h : ∀ (S : Nat → Prop) (base : Nat) (w0 : W0 E.G) (s' : St) (ρ : Nat → Option Value) (a : Act) (w : World), Same o s s' → Good S base w0 s' ρ a w → ∃ v, (execOp a.eval o).run E.P w = .ok (.value v) w ∧ RT (Dt S base ρ) ρ w t v) :
    OpOK E o s fr t none := by
  refine ⟨fun b hb => .inr (hrefs b hb), fun b x e => (by cases e), fun S base w0 s' ρ a w K Q hs g _ _ hK => ?_⟩
  obtain ⟨v, h1, h2⟩ := h S base w0 s' ρ a w hs g
  refine pure_op g h1 h2 (fun b hb => ?_) hK
  obtain ⟨x, hx, hb⟩ := hrefs b hb
  rw [← (hs x hx).1] at hb
  exact g.evRefs x b hb

theorem ok_move {x : Operand} (ho : o.op = .move x ∨ o.op = .assign x) : OpOK E o s fr (s.ev x) none := by
  have hm : x ∈ o.op.operands := by rcases ho with h | h <;> rw [h] <;> simp [Op.operands]
  refine .pure (fun b hb => ⟨x, hm, hb⟩) fun S base w0 s' ρ a w hs g => ⟨a.eval x, ?_, ?_⟩
  · rcases ho with h | h <;> simp [execOp, h]
  · have := g.ev x; rwa [(hs x hm).1] at this

theorem ok_pick {c x y : Operand} {b : Bool} (ho : o.op = .pick c x y) (hc : s.ev c = .d (.v (.bool b))) : OpOK E o s fr (s.ev (if b then x else y)) none := by
  have hm : (if b then x else y) ∈ o.op.operands := by rw [ho]; cases b <;> simp [Op.operands]
  refine .pure (fun b' hb => ⟨_, hm, hb⟩) fun S base w0 s' ρ a w hs g => ⟨a.eval (if b then x else y), ?_, ?_⟩
  · have h1 := g.ev c
    rw [(hs c (by rw [ho]; simp [Op.operands])).1, hc] at h1
    have h2 : a.eval c = .bool b := RA.plain h1
    simp only [execOp, ho, h2, asBool, Sem.run_bind, Sem.run_pure, Result.andThen_ok]
    cases b <;> rfl
  · have := g.ev (if b then x else y); rwa [(hs _ hm).1] at this

/-- what a slot that holds plain data holds -/
theorem evPlain {G : Nat → Option (List Seg)} {S : Nat → Prop} {base : Nat} {w0 : W0 G} {s' : St} {ρ : Nat → Option Value} {a : Act} {w : World} (hs : Same o s s') (g : Good S base w0 s' ρ a w) {x : Operand} (hx : x ∈ o.op.operands) {v : Value} (h : s.ev x = .d (.v v)) : a.eval x = v := by
  have h1 := g.ev x
  rw [(hs x hx).1, h] at h1
  exact RA.plain h1
theorem evData {G : Nat → Option (List Seg)} {S : Nat → Prop} {base : Nat} {w0 : W0 G} {s' : St} {ρ : Nat → Option Value} {a : Act} {w : World} (hs : Same o s s') (g : Good S base w0 s' ρ a w) {x : Operand} (hx : x ∈ o.op.operands) {t : T} (h : s.ev x = t) : RT (Dt S base ρ) ρ w t (a.eval x) := by
  have h1 := g.ev x
  rwa [(hs x hx).1, h] at h1

/-- what a package variable holds -/
theorem evGlob {S : Nat → Prop} {base : Nat} {w0 : W0 E.G} {s' : St} {ρ : Nat → Option Value} {a : Act} {w : World} (g : Good S base w0 s' ρ a w) {q : Nat} {l : List Seg} (h : E.G q = some l) : RT (Dt S base ρ) ρ w (.d (.ref l 0)) (a.eval (.global q)) := by
  obtain ⟨cs, h1, h2⟩ := g.glob q l h
  have := RA.ref (off := 0) h1 h2
  exact this
theorem evG_cases {s : St} {x : Operand} {t : T} (h : evG E.G s x = t) : s.ev x = t ∨ ∃ q l, x = .global q ∧ E.G q = some l ∧ t = .d (.ref l 0) := by
  unfold evG at h
  split at h
  · next q =>
    split at h
    · next l hl => exact .inr ⟨q, l, rfl, hl, h.symm⟩
    · exact .inl h
  · exact .inl h
/-- data that lies behind an address -/
theorem evRef {S : Nat → Prop} {base : Nat} {w0 : W0 E.G} {s' : St} {ρ : Nat → Option Value} {a : Act} {w : World} (hs : Same o s s') (g : Good S base w0 s' ρ a w) {x : Operand} (hx : x ∈ o.op.operands) {l : List Seg} {off : Nat} (h : evG E.G s x = .d (.ref l off)) : RT (Dt S base ρ) ρ w (.d (.ref l off)) (a.eval x) := by
  rcases evG_cases h with h | ⟨q, l', rfl, h1, h2⟩
  · exact evData hs g hx h
  · cases h2; exact evGlob g h1

theorem run_binK {op : BinOp} {t : TypeId} {p q : A} {K : A → Prop} (h : binK op p q K) : ∃ x y r, p = .v x ∧ q = .v y ∧ K (.v r) ∧ ∀ (P : Program) (w : World) (c d : Operand), ((do eqGuard op t c d x y; binOp op t x y : Sem Value)).run P w = .ok r w := by
  unfold binK at h
  split at h
  · next k a k' b =>
    cases op <;> simp only at h
    case add => obtain ⟨rfl, h⟩ := h; exact ⟨_, _, _, rfl, rfl, h, fun P w c d => by simp [eqGuard, binOp, Op.intArith, Sem.run_bind]⟩
    case sub => obtain ⟨rfl, h⟩ := h; exact ⟨_, _, _, rfl, rfl, h, fun P w c d => by simp [eqGuard, binOp, Op.intArith, Sem.run_bind]⟩
    case mul => obtain ⟨rfl, h⟩ := h; exact ⟨_, _, _, rfl, rfl, h, fun P w c d => by simp [eqGuard, binOp, Op.intArith, Sem.run_bind]⟩
    case quo => obtain ⟨rfl, h0, h⟩ := h; exact ⟨_, _, _, rfl, rfl, h, fun P w c d => by simp [eqGuard, binOp, Op.intDiv, Sem.run_bind, h0]⟩
    case rem => obtain ⟨rfl, h0, h⟩ := h; exact ⟨_, _, _, rfl, rfl, h, fun P w c d => by simp [eqGuard, binOp, Op.intDiv, Sem.run_bind, h0]⟩
    case and => obtain ⟨rfl, h⟩ := h; exact ⟨_, _, _, rfl, rfl, h, fun P w c d => by simp [eqGuard, binOp, Op.intBits, bits, Sem.run_bind]⟩
    case or => obtain ⟨rfl, h⟩ := h; exact ⟨_, _, _, rfl, rfl, h, fun P w c d => by simp [eqGuard, binOp, Op.intBits, bits, Sem.run_bind]⟩
    case xor => obtain ⟨rfl, h⟩ := h; exact ⟨_, _, _, rfl, rfl, h, fun P w c d => by simp [eqGuard, binOp, Op.intBits, bits, Sem.run_bind]⟩
    case andNot => obtain ⟨rfl, h⟩ := h; exact ⟨_, _, _, rfl, rfl, h, fun P w c d => by simp [eqGuard, binOp, Op.intBits, bits, Sem.run_bind]⟩
    case shl => obtain ⟨h0, h⟩ := h; exact ⟨_, _, _, rfl, rfl, h, fun P w c d => by simp [eqGuard, binOp, Op.shift, Sem.run_bind, h0]⟩
    case shr => obtain ⟨h0, h⟩ := h; exact ⟨_, _, _, rfl, rfl, h, fun P w c d => by simp [eqGuard, binOp, Op.shift, Sem.run_bind, h0]⟩
    case eql => obtain ⟨rfl, h⟩ := h; exact ⟨_, _, _, rfl, rfl, h, fun P w c d => by simp [eqGuard, binOp, Op.intCmp, Sem.run_bind]⟩
    case neq => obtain ⟨rfl, h⟩ := h; exact ⟨_, _, _, rfl, rfl, h, fun P w c d => by simp [eqGuard, binOp, Op.intCmp, Sem.run_bind]⟩
    case lss => obtain ⟨rfl, h⟩ := h; exact ⟨_, _, _, rfl, rfl, h, fun P w c d => by simp [eqGuard, binOp, Op.intCmp, Sem.run_bind]⟩
    case leq => obtain ⟨rfl, h⟩ := h; exact ⟨_, _, _, rfl, rfl, h, fun P w c d => by simp [eqGuard, binOp, Op.intCmp, Sem.run_bind]⟩
    case gtr => obtain ⟨rfl, h⟩ := h; exact ⟨_, _, _, rfl, rfl, h, fun P w c d => by simp [eqGuard, binOp, Op.intCmp, Sem.run_bind]⟩
    case geq => obtain ⟨rfl, h⟩ := h; exact ⟨_, _, _, rfl, rfl, h, fun P w c d => by simp [eqGuard, binOp, Op.intCmp, Sem.run_bind]⟩
  · exact h.elim
theorem ok_bin {op : BinOp} {t yt : TypeId} {x y : Operand} {p q : Value} {K : A → Prop} (ho : o.op = .binOp op t x y yt) (hx : s.ev x = .d (.v p)) (hy : s.ev y = .d (.v q)) (h : binK op (.v p) (.v q) K) :
    ∃ r, K r ∧ OpOK E o s fr (.d r) none := by
  obtain ⟨x', y', r, e1, e2, hK, hr⟩ := run_binK (t := t) h
  cases e1; cases e2
  refine ⟨_, hK, .pure (fun b hb => by simp [T.refs] at hb) fun S base w0 s' ρ a w hs g => ⟨r, ?_, .v r⟩⟩
  have h1 := evPlain hs g (by rw [ho]; simp [Op.operands]) hx
  have h2 := evPlain hs g (by rw [ho]; simp [Op.operands]) hy
  have h3 := hr E.P w x y
  simp only [Sem.run_bind] at h3
  simp only [execOp, ho, h1, h2, Sem.run_bind, h3, Result.andThen_ok, Sem.run_pure]
theorem ok_binBool {op : BinOp} {t yt : TypeId} {x y : Operand} {p q r : Bool} (ho : o.op = .binOp op t x y yt) (hx : s.ev x = .d (.v (.bool p))) (hy : s.ev y = .d (.v (.bool q))) (hu : E.P.underlying t = some .bool)
    (hr : op = .eql ∧ r = (p == q) ∨ op = .neq ∧ r = (!(p == q))) : OpOK E o s fr (.d (.v (.bool r))) none := by
  refine .pure (fun b hb => by simp [T.refs] at hb) fun S base w0 s' ρ a w hs g => ⟨_, ?_, .v _⟩
  have h1 := evPlain hs g (by rw [ho]; simp [Op.operands]) hx
  have h2 := evPlain hs g (by rw [ho]; simp [Op.operands]) hy
  have h3 := run_equalIn_bool (P := E.P) w 9999 t p q hu
  rcases hr with ⟨rfl, rfl⟩ | ⟨rfl, rfl⟩
  · simp [execOp, ho, h1, h2, Sem.run_bind, eqGuard, binOp, Op.equal, Op.maxDepth, h3]
  · simp [execOp, ho, h1, h2, Sem.run_bind, eqGuard, binOp, Op.equal, Op.maxDepth, h3]
theorem ok_not {t : TypeId} {x : Operand} {b : Bool} (ho : o.op = .unOp .not t x) (hx : s.ev x = .d (.v (.bool b))) : OpOK E o s fr (.d (.v (.bool (!b)))) none := by
  refine .pure (fun b hb => by simp [T.refs] at hb) fun S base w0 s' ρ a w hs g => ⟨_, ?_, .v _⟩
  have h1 := evPlain hs g (by rw [ho]; simp [Op.operands]) hx
  simp [execOp, ho, h1, Op.unary, Sem.run_bind]

theorem ok_neg {t : TypeId} {x : Operand} {q : IntKind} {z : Int} (ho : o.op = .unOp .neg t x) (hx : s.ev x = .d (.v (.int q z))) : OpOK E o s fr (.d (.v (.int q (q.wrap (0 - z))))) none := by
  refine .pure (fun b hb => by simp [T.refs] at hb) fun S base w0 s' ρ a w hs g => ⟨_, ?_, .v _⟩
  have h1 := evPlain hs g (by rw [ho]; simp [Op.operands]) hx
  simp [execOp, ho, h1, Op.unary, Op.intArith, Sem.run_bind]

/-- a new variable -/
theorem ok_new {l : List Seg} (hno : ∀ (S : Nat → Prop) (base : Nat) (w0 : W0 E.G) (s' : St) (ρ : Nat → Option Value) (a : Act) (w : World), Same o s s' → Good S base w0 s' ρ a w →
      ∃ cs ty, (∀ D' w', Keeps (Dt S base ρ) w D' w' → RL D' w' l cs) ∧ (execOp a.eval o).run E.P w = .ok (.value (.pointer (some ⟨w.heap.size, 0, none⟩))) (w.alloc (.cells (List.toArray cs) ty))) :
    OpOK E o s fr (.ptr fr 0) (some (fr, .var l)) := by
  refine ⟨fun b hb => .inl ⟨by simpa [T.refs] using hb, _, rfl⟩, fun b x e => by cases e; exact .inl rfl, fun S base w0 s' ρ a w K Q hs g hf hlt hK => ?_⟩
  obtain ⟨cs, ty, h1, h2⟩ := hno S base w0 s' ρ a w hs g
  unfold Oper.wp
  rw [h2]
  have g2 := g.alloc hf hlt (ty := ty) h1
  refine hK _ _ _ (g2.put' o.dst (t := .ptr fr 0) ?_ ?_)
  · intro u hu
    simp [upd] at hu
    exact ⟨w.heap.size, .inl hu.symm, rfl⟩
  · intro b hb
    simp [T.refs] at hb
    subst hb
    simp [St.bk, getD_set_list, hlt]
theorem ok_alloc {e : TypeId} {i : TI} (ho : o.op = .alloc e) (hY : E.Y e = some i) : OpOK E o s fr (.ptr fr 0) (some (fr, .var i.zero)) := by
  obtain ⟨f, z, h1, _, _, h2, h3⟩ := (E.hY e i hY).info
  refine ok_new fun S base w0 s' ρ a w hs g => ⟨z.cells.toList, e, fun D' w' _ => zeroB_spec h3, ?_⟩
  simp [execOp, ho, Instr.alloc, zeroValue, typeInfo, h1, h2, newVar, newRow, Sem.run_bind]
theorem boxSegs_spec {D : Nat → Prop} {w : World} {a : A} {l : List Seg} {v : Value} (h : boxSegs a = some l) (hv : RA D w a v) : RL D w l v.cells.toList := by
  unfold boxSegs at h
  split at h
  · cases h; cases hv with | agg k => simpa [Value.cells] using k
  · cases h; cases hv; exact .ofInts rfl rfl
  · cases h; cases hv; exact .ofBools rfl rfl
  · cases h
theorem ok_box {e : TypeId} {x : Operand} {d : A} {l : List Seg} (ho : o.op = .box e x) (hx : s.ev x = .d d) (hl : boxSegs d = some l) : OpOK E o s fr (.ptr fr 0) (some (fr, .var l)) := by
  refine ok_new fun S base w0 s' ρ a w hs g => ⟨(a.eval x).cells.toList, e, fun D' w' k => (boxSegs_spec hl (evData hs g (by rw [ho]; simp [Op.operands]) hx)).up k, ?_⟩
  simp [execOp, ho, Instr.box, newVar, newRow, Sem.run_bind]

theorem ok_loadVar {t : TypeId} {x : Operand} {i : TI} {b off : Nat} {l : List Seg} {d : A} (ho : o.op = .load t x) (hY : E.Y t = some i) (hb : b ∈ (s.ev x).refs) (hk : s.bk b = some (.var l))
    (hx : ∀ {D : Nat → Prop} {ρ : Nat → Option Value} {w : World} {v : Value} {r : Nat}, RT D ρ w (s.ev x) v → ρ b = some (.pointer (some ⟨r, 0, none⟩)) → v = .pointer (some ⟨r, off, none⟩))
    (hd : ∀ {S : Nat → Prop} {w : World} {cs : List Value}, RL S w l cs → (i.agg = true → off + i.sz ≤ cs.length ∧ RA S w d (.agg ((cs.drop off).take i.sz).toArray)) ∧ (i.agg = false → ∃ v, cs[off]? = some v ∧ RA S w d v ∧ v.oneCell' = true)) :
    OpOK E o s fr (.d d) none := by
  refine .pure (fun b hb => by simp [T.refs] at hb) fun S base w0 s' ρ a w hs g => ?_
  have hm : x ∈ o.op.operands := by rw [ho]; simp [Op.operands]
  obtain ⟨r, cs, ty, h1, h2, h3, h4⟩ := g.var ((hs.bk hm (by simp [looks, ho]) hb).trans hk)
  have h5 := hx (evData hs g hm rfl) h1
  obtain ⟨v, h6, h7⟩ := run_load_part (E.hY t i hY) (o := 0) (fun j hj => by rw [Nat.zero_add, cells_of h3, List.getElem?_eq_getElem hj]) (hd h4)
  rw [Nat.zero_add] at h6
  exact ⟨v, exec_load ho h5 h6, h7⟩
theorem ok_loadRef {t : TypeId} {x : Operand} {i : TI} {off : Nat} {l : List Seg} {d : A} (ho : o.op = .load t x) (hY : E.Y t = some i) (hx : evG E.G s x = .d (.ref l off))
    (hd : ∀ {S : Nat → Prop} {w : World} {cs : List Value}, RL S w l cs → (i.agg = true → off + i.sz ≤ cs.length ∧ RA S w d (.agg ((cs.drop off).take i.sz).toArray)) ∧ (i.agg = false → ∃ v, cs[off]? = some v ∧ RA S w d v ∧ v.oneCell' = true))
    (hne : i.agg = true → i.sz ≠ 0) : OpOK E o s fr (.d d) none := by
  refine .pure (fun b hb => by simp [T.refs] at hb) fun S base w0 s' ρ a w hs g => ?_
  have hm : x ∈ o.op.operands := by rw [ho]; simp [Op.operands]
  have h1 := evRef hs g hm hx
  generalize hv : a.eval x = v at h1
  cases h1 with
  | ref k h4 =>
    rename_i b o' cs
    rcases h4 with h4 | ⟨b', o'', e, h5, h6, h7⟩
    · exfalso
      subst h4
      cases ha : i.agg with
      | true => have := ((hd k).1 ha).1; simp at this; exact hne ha this.2
      | false => obtain ⟨v, h, _⟩ := (hd k).2 ha; simp at h
    · cases e
      obtain ⟨v, h8, h9⟩ := run_load_part (E.hY t i hY) (o := o') h7 (hd k)
      exact ⟨v, exec_load ho hv h8, h9⟩
theorem ok_loadSref {t : TypeId} {x : Operand} {i : TI} {off : Nat} {l : List Seg} {d : A} (ho : o.op = .load t x) (hY : E.Y t = some i) (hx : s.ev x = .d (.sref l off))
    (hd : ∀ {S : Nat → Prop} {w : World} {cs : List Value}, RL S w l cs → (i.agg = true → off + i.sz ≤ cs.length ∧ RA S w d (.agg ((cs.drop off).take i.sz).toArray)) ∧ (i.agg = false → ∃ v, cs[off]? = some v ∧ RA S w d v ∧ v.oneCell' = true))
    (hne : i.agg = true → i.sz ≠ 0) : OpOK E o s fr (.d d) none := by
  refine .pure (fun b hb => by simp [T.refs] at hb) fun S base w0 s' ρ a w hs g => ?_
  have hm : x ∈ o.op.operands := by rw [ho]; simp [Op.operands]
  have h1 := evData hs g hm hx
  generalize hv : a.eval x = v at h1
  cases h1 with
  | sref k h4 =>
    rename_i b o' cs
    rcases h4 with h4 | ⟨b', o'', e, h5, h6, h7⟩
    · exfalso
      subst h4
      cases ha : i.agg with
      | true => have := ((hd k).1 ha).1; simp at this; exact hne ha this.2
      | false => obtain ⟨v, h, _⟩ := (hd k).2 ha; simp at h
    · cases e
      obtain ⟨v, h8, h9⟩ := run_load_part (E.hY t i hY) (o := o') h7 (hd k)
      exact ⟨v, exec_load ho hv h8, h9⟩
theorem ok_loadOwn {t : TypeId} {x : Operand} {i : TI} {b off n sz : Nat} {e : TypeId} {l : List Seg} {d : A} (ho : o.op = .load t x) (hY : E.Y t = some i) (hx : s.ev x = .ept b n off) (hk : s.bk b = some (.sl e sz n l))
    (hd : ∀ {S : Nat → Prop} {w : World} {cs : List Value}, RL S w l cs → (i.agg = true → off + i.sz ≤ cs.length ∧ RA S w d (.agg ((cs.drop off).take i.sz).toArray)) ∧ (i.agg = false → ∃ v, cs[off]? = some v ∧ RA S w d v ∧ v.oneCell' = true)) :
    OpOK E o s fr (.d d) none := by
  refine .pure (fun b hb => by simp [T.refs] at hb) fun S base w0 s' ρ a w hs g => ?_
  have hm : x ∈ o.op.operands := by rw [ho]; simp [Op.operands]
  obtain ⟨u, cs, h1, h2, h3⟩ := g.slc ((hs.bk hm (by simp [looks, ho]) (by rw [hx]; simp [T.refs])).trans hk)
  obtain ⟨ad, n', c, rfl, h4, h5⟩ := evData hs g hm hx u h1
  have hn : n = n' := by
    rcases h2.2 with ⟨e1, e2⟩ | ⟨g', cap, cur, e1, _⟩
    · cases e1; omega
    · cases e1; rfl
  obtain ⟨r, rfl, h6⟩ := h5 hn
  rcases h2.2 with ⟨e1, e2⟩ | ⟨g', cap, cur, e1, h7, h8, h9, h10, h11, h12⟩
  · cases e1
  · cases e1
    obtain ⟨v, h13, h14⟩ := run_load_part (E.hY t i hY) (r := r) (o := 0) (cs := cs) (fun j hj => by
      rw [Nat.zero_add, cell_of_row w r j cur e (0, 0) h8]
      have : (cur.toList.take (n * sz))[j]? = cs[j]? := by rw [h12]
      rw [List.getElem?_take, if_pos (by have := h2.1; omega), Array.getElem?_toList, List.getElem?_eq_getElem hj] at this
      exact this) (hd h3)
    rw [Nat.zero_add] at h13
    exact ⟨v, exec_load ho h6 h13, h14⟩

theorem ok_store {t : TypeId} {x y : Operand} {i : TI} {b off : Nat} {l l' : List Seg} {d : A} (ho : o.op = .store t x y) (hY : E.Y t = some i) (hb : b ∈ (s.ev x).refs) (hk : s.bk b = some (.var l)) (hy : s.ev y = .d d)
    (hx : ∀ {D : Nat → Prop} {ρ : Nat → Option Value} {w : World} {v : Value} {r : Nat}, RT D ρ w (s.ev x) v → ρ b = some (.pointer (some ⟨r, 0, none⟩)) → v = .pointer (some ⟨r, off, none⟩))
    (hd : ∀ {S : Nat → Prop} {w : World} {cs : List Value} {v : Value}, RL S w l cs → RA S w d v →
      v.cells.size = i.sz ∧ (∀ u ∈ v.cells.toList, u.oneCell' = true) ∧ (off + i.sz ≤ cs.length ∨ i.sz = 0) ∧ RL S w l' (cs.take off ++ (v.cells.toList ++ cs.drop (off + i.sz)))) :
    OpOK E o s fr (.d (.v undef)) (some (b, .var l')) := by
  have hm : x ∈ o.op.operands := by rw [ho]; simp [Op.operands]
  have hm2 : y ∈ o.op.operands := by rw [ho]; simp [Op.operands]
  refine ⟨fun b hb => by simp [T.refs] at hb, fun b' x' e => by cases e; exact .inr ⟨x, hm, hb⟩, fun S base w0 s' ρ a w K Q hs g hf hlt hK => ?_⟩
  obtain ⟨r, cs, ty, h1, h2, h3, h4⟩ := g.var ((hs.bk hm (by simp [looks, ho]) hb).trans hk)
  have h5 := hx (evData hs g hm rfl) h1
  obtain ⟨k1, k2, k3, k4⟩ := hd h4 (evData hs g hm2 hy)
  have k1' : (a.eval y).cells.toList.length = i.sz := by rw [Array.length_toList, k1]
  have hrun := run_storeVar_at (E.hY t i hY) k1 k2 h3 k3
  unfold Oper.wp
  have : (execOp a.eval o).run E.P w = .ok .skip (w.setRow r (cs.take off ++ ((a.eval y).cells.toList ++ cs.drop (off + (a.eval y).cells.toList.length))).toArray) := by
    simp only [execOp, ho, h5, Instr.storeAt, Instr.sureAddr, Sem.run_bind, Sem.run_pure, Result.andThen_ok, hrun]
  rw [this]
  have g2 := g.store ((hs.bk hm (by simp [looks, ho]) hb).trans hk) h1 h3 (off := off) (vs := (a.eval y).cells.toList) (l' := l') (by rw [k1']; exact k4)
  exact hK _ _ _ (g2.put' o.dst (t := .d (.v undef)) (.v undef) (by simp [T.refs]))
end
end Go.Proofs.Ytanpamcecaoanaa

/-
  More operations of the machine without memory: addresses, parts, structs built, calls. No program is named here.
-/
namespace Go.Proofs.Ytanpamcecaoanaa
set_option maxRecDepth 100000
open Go.RowKit
set_option linter.unusedVariables false
set_option linter.unusedSimpArgs false

theorem add_at (r o n : Nat) : (⟨r, o, none⟩ : Addr).add n = ⟨r, o + n, none⟩ := by unfold Addr.add; split <;> simp_all

section
variable {E : EnvX} {o : Oper} {s : St} {fr : Nat}

theorem Good.ref {S : Nat → Prop} {base : Nat} {G : Nat → Option (List Seg)} {w0 : W0 G} {s : St} {ρ : Nat → Option Value} {a : Act} {w : World} (g : Good S base w0 s ρ a w) {b : Nat} (h : s.bk b ≠ none) : ∃ u, ρ b = some u := by
  have := g.b b
  cases hk : s.bk b with
  | none => exact absurd hk h
  | some x =>
    rw [hk] at this
    cases x with
    | var l => obtain ⟨r, _, _, h, _⟩ := this; exact ⟨_, h⟩
    | sl e sz n l => obtain ⟨u, _, h, _⟩ := this; exact ⟨_, h⟩
    | obj p => obtain ⟨r, _, _, h, _⟩ := this; exact ⟨_, h⟩
    | abs p => obtain ⟨r, _, h, _⟩ := this; exact ⟨_, h⟩
    | vh l off p e sz n m => obtain ⟨r, _, _, _, _, h, _⟩ := this; exact ⟨_, h⟩
    | gone => obtain ⟨_, h⟩ := this; exact ⟨_, h⟩
    | bx => obtain ⟨_, _, _, _, h, _⟩ := this; exact ⟨_, h⟩

theorem ok_ptrNil {op : BinOp} {t yt : TypeId} {x y : Operand} {b base : Nat} {r : Bool} (ho : o.op = .binOp op t x y yt) (hx : s.ev x = .ptr b base) (hy : s.ev y = .d (.v (.pointer none))) (hu : E.P.underlying t = some (.pointer (E.P.pointee t)))
    (hr : op = .eql ∧ r = false ∨ op = .neq ∧ r = true) : OpOK E o s fr (.d (.v (.bool r))) none := by
  refine .pure (fun b hb => by simp [T.refs] at hb) fun S base0 w0 s' ρ a w hs g => ⟨_, ?_, .v _⟩
  have hm : x ∈ o.op.operands := by rw [ho]; simp [Op.operands]
  have h1 := evData hs g hm hx
  have h2 := evPlain hs g (by rw [ho]; simp [Op.operands]) hy
  obtain ⟨u, hu'⟩ := g.ref (g.evRefs x b (by rw [(hs x hm).1, hx]; simp [T.refs]))
  obtain ⟨q, _, h4⟩ := h1 u hu'
  have h3 := run_equalIn_pointer_nil (P := E.P) (w := w) 9999 t (some ⟨q, base, none⟩) hu
  rcases hr with ⟨rfl, rfl⟩ | ⟨rfl, rfl⟩
  · simp [execOp, ho, h4, h2, Sem.run_bind, eqGuard, binOp, Op.equal, Op.maxDepth, h3]
  · simp [execOp, ho, h4, h2, Sem.run_bind, eqGuard, binOp, Op.equal, Op.maxDepth, h3]
theorem ok_obNil {op : BinOp} {t yt : TypeId} {x y : Operand} {b : Nat} {r : Bool} (ho : o.op = .binOp op t x y yt) (hx : s.ev x = .ob b) (hy : s.ev y = .d (.v (.pointer none))) (hu : E.P.underlying t = some (.pointer (E.P.pointee t)))
    (hr : op = .eql ∧ r = false ∨ op = .neq ∧ r = true) : OpOK E o s fr (.d (.v (.bool r))) none := by
  refine .pure (fun b hb => by simp [T.refs] at hb) fun S base0 w0 s' ρ a w hs g => ⟨_, ?_, .v _⟩
  have hm : x ∈ o.op.operands := by rw [ho]; simp [Op.operands]
  have h1 := evData hs g hm hx
  have h2 := evPlain hs g (by rw [ho]; simp [Op.operands]) hy
  obtain ⟨u, hu'⟩ := g.ref (g.evRefs x b (by rw [(hs x hm).1, hx]; simp [T.refs]))
  obtain ⟨q, F, rfl, h4⟩ := h1 u hu'
  have h3 := run_equalIn_pointer_nil (P := E.P) (w := w) 9999 t (some ⟨q, 0, none⟩) hu
  rcases hr with ⟨rfl, rfl⟩ | ⟨rfl, rfl⟩
  · simp [execOp, ho, h4, h2, Sem.run_bind, eqGuard, binOp, Op.equal, Op.maxDepth, h3]
  · simp [execOp, ho, h4, h2, Sem.run_bind, eqGuard, binOp, Op.equal, Op.maxDepth, h3]
theorem ok_srefNil {op : BinOp} {t yt : TypeId} {x y : Operand} {l : List Seg} {q : Nat} {r : Bool} (ho : o.op = .binOp op t x y yt) (hx : s.ev x = .d (.sref l q)) (hy : s.ev y = .d (.v (.pointer none))) (hu : E.P.underlying t = some (.pointer (E.P.pointee t)))
    (hr : op = .eql ∧ r = false ∨ op = .neq ∧ r = true) : OpOK E o s fr (.d (.v (.bool r))) none := by
  refine .pure (fun b hb => by simp [T.refs] at hb) fun S base0 w0 s' ρ a w hs g => ⟨_, ?_, .v _⟩
  have hm : x ∈ o.op.operands := by rw [ho]; simp [Op.operands]
  have h1 := evData hs g hm hx
  have h2 := evPlain hs g (by rw [ho]; simp [Op.operands]) hy
  obtain ⟨ad, h4⟩ : ∃ ad, a.eval x = .pointer (some ad) := by
    have h5 : RA _ w (.sref l q) (a.eval x) := h1
    generalize a.eval x = v at h5
    cases h5 with | sref _ _ => exact ⟨_, rfl⟩
  have h3 := run_equalIn_pointer_nil (P := E.P) (w := w) 9999 t (some ad) hu
  rcases hr with ⟨rfl, rfl⟩ | ⟨rfl, rfl⟩
  · simp [execOp, ho, h4, h2, Sem.run_bind, eqGuard, binOp, Op.equal, Op.maxDepth, h3]
  · simp [execOp, ho, h4, h2, Sem.run_bind, eqGuard, binOp, Op.equal, Op.maxDepth, h3]
theorem ok_slNil {op : BinOp} {t yt : TypeId} {x y : Operand} {ad : Option Addr} {n c n' c' : Nat} {r : Bool} (ho : o.op = .binOp op t x y yt) (hx : s.ev x = .d (.v (.slice ad n c))) (hy : s.ev y = .d (.v (.slice none n' c'))) (hu : E.P.underlying t = some (.slice (E.P.elem t)))
    (hr : op = .eql ∧ r = ad.isNone ∨ op = .neq ∧ r = !ad.isNone) : OpOK E o s fr (.d (.v (.bool r))) none := by
  refine .pure (fun b hb => by simp [T.refs] at hb) fun S base0 w0 s' ρ a w hs g => ⟨_, ?_, .v _⟩
  have h1 := evPlain hs g (by rw [ho]; simp [Op.operands]) hx
  have h2 := evPlain hs g (by rw [ho]; simp [Op.operands]) hy
  have h3 := Lib.run_equalIn_slice_nil (P := E.P) w 9999 t _ ad n c n' c' hu
  rcases hr with ⟨rfl, rfl⟩ | ⟨rfl, rfl⟩
  · simp [execOp, ho, h1, h2, Sem.run_bind, eqGuard, binOp, Op.equal, Op.maxDepth, h3]
  · simp [execOp, ho, h1, h2, Sem.run_bind, eqGuard, binOp, Op.equal, Op.maxDepth, h3]
theorem ok_rowNil {op : BinOp} {t yt : TypeId} {x y : Operand} {l : List Seg} {n n' c' : Nat} {r : Bool} (ho : o.op = .binOp op t x y yt) (hx : s.ev x = .d (.row n l)) (hy : s.ev y = .d (.v (.slice none n' c'))) (hn : n ≠ 0) (hu : E.P.underlying t = some (.slice (E.P.elem t)))
    (hr : op = .eql ∧ r = false ∨ op = .neq ∧ r = true) : OpOK E o s fr (.d (.v (.bool r))) none := by
  refine .pure (fun b hb => by simp [T.refs] at hb) fun S base0 w0 s' ρ a w hs g => ⟨_, ?_, .v _⟩
  have hm : x ∈ o.op.operands := by rw [ho]; simp [Op.operands]
  have h1 := evData hs g hm hx
  have h2 := evPlain hs g (by rw [ho]; simp [Op.operands]) hy
  obtain ⟨ad, c, h4⟩ : ∃ ad c, a.eval x = .slice (some ad) n c := by
    have h5 : RA _ w (.row n l) (a.eval x) := h1
    generalize a.eval x = v at h5
    cases h5 with
    | row k1 k2 k3 k4 k5 =>
      rename_i c cs ad
      cases ad with
      | none => have := k4 rfl; omega
      | some ad => exact ⟨_, _, rfl⟩
  have h3 := Lib.run_equalIn_slice_nil (P := E.P) w 9999 t _ (some ad) n c n' c' hu
  rcases hr with ⟨rfl, rfl⟩ | ⟨rfl, rfl⟩
  · simp [execOp, ho, h4, h2, Sem.run_bind, eqGuard, binOp, Op.equal, Op.maxDepth, h3]
  · simp [execOp, ho, h4, h2, Sem.run_bind, eqGuard, binOp, Op.equal, Op.maxDepth, h3]
/-- a text as bytes -/
theorem ok_strB {src dst : TypeId} {x : Operand} {i : TI} {b : ByteArray} (ho : o.op = .convert src dst x) (hd : E.Y dst = some i) (hsl : i.sl = true) (hsrc : E.P.underlying src = some .string) (he : E.P.underlying i.elem = some (.int .u8)) (hb : b.size ≤ 1000000000) (hx : s.ev x = .d (.v (.string b))) :
    OpOK E o s fr (.d (.row b.size [.bytes b.size b.data.toList])) none := by
  have hm : x ∈ o.op.operands := by rw [ho]; simp [Op.operands]
  refine ⟨fun b hb => by simp [T.refs] at hb, fun b x e => (by cases e), fun S base w0 s' ρ a w K Q hs g _ _ hK => ?_⟩
  have h1 := evPlain hs g hm hx
  have hu := (E.hY dst i hd).sl hsl
  have hrun := Lib.run_convert_string_bytes (P := E.P) w src dst i.elem b hsrc hu he
  have hbel : w.grownBy (Lib.bytesWorld w i.elem b) none := ⟨rfl, rfl, rfl, by rw [Lib.bytesWorld_size]; omega, fun k hk _ => Lib.bytesWorld_at_old w i.elem b k hk⟩
  obtain ⟨g2, k2⟩ := g.grow hbel
  unfold Oper.wp execOp
  simp only [ho, h1, Sem.run_bind, hrun, Result.andThen_ok, Sem.run_pure]
  refine hK _ _ ρ (g2.put' o.dst (t := .d _) ?_ (by simp [T.refs]))
  have hbl : b.data.toList.length = b.size := Array.length_toList
  refine .row (.ofBytes (bs := b.data.toList) hbl rfl) (grownCap_ge w b.size 0 i.elem) (grownCap_le_maxLen w b.size 0 i.elem (by unfold maxLen; omega)) (fun e => by cases e) (.inr ⟨w.heap.size, 0, rfl, ⟨.inr g.size, fun b' u hb' hu' => ?_⟩, by rw [Lib.bytesWorld_size]; omega, fun j hj => ?_⟩)
  · have := (g.low b' u _ hb' hu').2
    omega
  · have hj2 : j < b.size := by have h9 := hj; rw [HL_length, hbl] at h9; exact h9
    rw [Nat.zero_add, Lib.bytesWorld_cell w i.elem b j hj2]
    have hj3 : j < b.data.toList.length := by rw [hbl]; exact hj2
    simp [HL, Bt, List.getD_eq_getElem?_getD, List.getElem?_eq_getElem hj3]
theorem ok_nilNil {op : BinOp} {t yt : TypeId} {x y : Operand} {r : Bool} (ho : o.op = .binOp op t x y yt) (hx : s.ev x = .d (.v (.pointer none))) (hy : s.ev y = .d (.v (.pointer none))) (hu : E.P.underlying t = some (.pointer (E.P.pointee t)))
    (hr : op = .eql ∧ r = true ∨ op = .neq ∧ r = false) : OpOK E o s fr (.d (.v (.bool r))) none := by
  refine .pure (fun b hb => by simp [T.refs] at hb) fun S base0 w0 s' ρ a w hs g => ⟨_, ?_, .v _⟩
  have h1 := evPlain hs g (by rw [ho]; simp [Op.operands]) hx
  have h2 := evPlain hs g (by rw [ho]; simp [Op.operands]) hy
  have h3 := run_equalIn_pointer_nil (P := E.P) (w := w) 9999 t none hu
  rcases hr with ⟨rfl, rfl⟩ | ⟨rfl, rfl⟩
  · simp [execOp, ho, h1, h2, Sem.run_bind, eqGuard, binOp, Op.equal, Op.maxDepth, h3]
  · simp [execOp, ho, h1, h2, Sem.run_bind, eqGuard, binOp, Op.equal, Op.maxDepth, h3]
theorem exec_fieldAddr {a : Act} {w : World} {t : TypeId} {x : Operand} {f off : Nat} {i : TI} (ho : o.op = .fieldAddr t x f) (hY : E.Y t = some i) (hf : i.fld[f]? = some off) {r q : Nat} (hx : a.eval x = .pointer (some ⟨r, q, none⟩)) :
    (execOp a.eval o).run E.P w = .ok (.value (.pointer (some ⟨r, q + off, none⟩))) w := by
  obtain ⟨fs, y, j, h1, h2, h3, _, h4, h5⟩ := (E.hY t i hY).fld f off hf
  have h6 : E.P.cellsOf y.type ≠ 0 := by simp [Program.cellsOf, h4, h5]
  simp only [execOp, ho, hx, Instr.fieldAt, Instr.sureAddr, Sem.run_bind, Sem.run_pure, Result.andThen_ok, run_underlying h1 w, h2, fieldPlace, run_sizeOf w h4, h6, if_false]
  rw [add_at, h3]
/-- the address of an element of an own slice, asx it is now -/
theorem ept_now {S : Nat → Prop} {base : Nat} {G : Nat → Option (List Seg)} {w0 : W0 G} {s : St} {ρ : Nat → Option Value} {a : Act} {w : World} (g : Good S base w0 s ρ a w) {b n off sz : Nat} {e : TypeId} {l : List Seg} (hk : s.bk b = some (.sl e sz n l)) {v : Value} (h : RT (Dt S base ρ) ρ w (.ept b n off) v) :
    ∃ r c, ρ b = some (.slice (some ⟨r, 0, none⟩) n c) ∧ v = .pointer (some ⟨r, off, none⟩) := by
  obtain ⟨u, cs, h1, h2, _⟩ := g.slc hk
  obtain ⟨ad, n', c, rfl, h4, h5⟩ := h u h1
  have hn : n = n' := by
    rcases h2.2 with ⟨e1, e2⟩ | ⟨g', cap, cur, e1, _⟩
    · cases e1; omega
    · cases e1; rfl
  obtain ⟨r, rfl, h6⟩ := h5 hn
  subst hn
  exact ⟨r, c, h1, h6⟩
theorem own_now {S : Nat → Prop} {base : Nat} {G : Nat → Option (List Seg)} {w0 : W0 G} {s : St} {ρ : Nat → Option Value} {a : Act} {w : World} (g : Good S base w0 s ρ a w) {b n sz : Nat} {e : TypeId} {l : List Seg} (hk : s.bk b = some (.sl e sz n l)) {v : Value} (h : RT (Dt S base ρ) ρ w (.own b n) v) :
    ∃ cs, ρ b = some v ∧ w.ownsRow base e sz v n cs ∧ RL (Dt S base ρ) w l cs := by
  obtain ⟨u, cs, h1, h2, h3⟩ := g.slc hk
  obtain ⟨ad, n', c, rfl, h4, h5⟩ := h u h1
  have hn : n = n' := by
    rcases h2.2 with ⟨e1, e2⟩ | ⟨g', cap, cur, e1, _⟩
    · cases e1; omega
    · cases e1; rfl
  rw [h5 hn]
  exact ⟨cs, h1, h2, h3⟩
theorem ok_fieldAddr {t : TypeId} {x : Operand} {f off : Nat} {i : TI} (ho : o.op = .fieldAddr t x f) (hY : E.Y t = some i) (hf : i.fld[f]? = some off) {t1 t2 : T} (hx : s.ev x = t1)
    (h : ∃ b base, t1 = .ptr b base ∧ t2 = .ptr b (base + off) ∨ ∃ rel, t1 = .pti b base rel ∧ t2 = .pti b base (rel + off) ∨ t1 = .ept b base rel ∧ t2 = .ept b base (rel + off) ∧ ∃ e sz l, s.bk b = some (.sl e sz base l)) : OpOK E o s fr t2 none := by
  have hm : x ∈ o.op.operands := by rw [ho]; simp [Op.operands]
  refine .pure ?_ fun S base0 w0 s' ρ a w hs g => ?_
  · intro b' hb'
    refine ⟨x, hm, ?_⟩
    rw [hx]
    rcases h with ⟨b, base, ⟨rfl, rfl⟩ | ⟨rel, ⟨rfl, rfl⟩ | ⟨rfl, rfl, _⟩⟩⟩ <;> simpa [T.refs] using hb'
  · have h1 := evData hs g hm hx
    have key : ∀ b, b ∈ t1.refs → ∃ u, ρ b = some u := fun b hb => g.ref (g.evRefs x b (by rw [(hs x hm).1, hx]; exact hb))
    rcases h with ⟨b, base, ⟨rfl, rfl⟩ | ⟨rel, ⟨rfl, rfl⟩ | ⟨rfl, rfl, e, sz, l, hk⟩⟩⟩
    · obtain ⟨u, hu⟩ := key b (by simp [T.refs])
      obtain ⟨r, hR, h2⟩ := h1 u hu
      refine ⟨_, exec_fieldAddr ho hY hf h2, fun u' hu' => ?_⟩
      rw [hu] at hu'; cases hu'
      exact ⟨r, hR, rfl⟩
    · obtain ⟨u, hu⟩ := key b (by simp [T.refs])
      obtain ⟨r, hR, h2⟩ := h1 u hu
      refine ⟨_, exec_fieldAddr ho hY hf h2, fun u' hu' => ?_⟩
      rw [hu] at hu'; cases hu'
      exact ⟨r, hR, by rw [Nat.add_assoc]⟩
    · obtain ⟨r, c, hu, h2⟩ := ept_now g (((hs x hm).2 b (by rw [hx]; simp [seen, ho, T.refs])).trans hk) h1
      refine ⟨_, exec_fieldAddr ho hY hf h2, fun u' hu' => ?_⟩
      rw [hu] at hu'; cases hu'
      exact ⟨_, base, c, rfl, Nat.le_refl _, fun _ => ⟨r, rfl, rfl⟩⟩
theorem ok_fieldRef {t : TypeId} {x : Operand} {f off q : Nat} {i : TI} {l : List Seg} (ho : o.op = .fieldAddr t x f) (hY : E.Y t = some i) (hf : i.fld[f]? = some off) (hx : s.ev x = .d (.ref l q)) : OpOK E o s fr (.d (.ref l (q + off))) none := by
  have hm : x ∈ o.op.operands := by rw [ho]; simp [Op.operands]
  refine .pure (fun b hb => by simp [T.refs] at hb) fun S base0 w0 s' ρ a w hs g => ?_
  have h1 := evData hs g hm hx
  generalize hv : a.eval x = v at h1
  cases h1 with
  | ref k h4 => exact ⟨_, exec_fieldAddr ho hY hf hv, by rw [Nat.add_assoc]; exact .ref k h4⟩

theorem ok_fieldSref {t : TypeId} {x : Operand} {f off q : Nat} {i : TI} {l : List Seg} (ho : o.op = .fieldAddr t x f) (hY : E.Y t = some i) (hf : i.fld[f]? = some off) (hx : s.ev x = .d (.sref l q)) : OpOK E o s fr (.d (.sref l (q + off))) none := by
  have hm : x ∈ o.op.operands := by rw [ho]; simp [Op.operands]
  refine .pure (fun b hb => by simp [T.refs] at hb) fun S base0 w0 s' ρ a w hs g => ?_
  have h1 := evData hs g hm hx
  generalize hv : a.eval x = v at h1
  cases h1 with
  | sref k h4 => exact ⟨_, exec_fieldAddr ho hY hf hv, by rw [Nat.add_assoc]; exact .sref k h4⟩

theorem ok_nilRef {x : Operand} {t : T} (ho : o.op = .nilCheck x) (hx : s.ev x = t) (ht : (∃ l q, t = .d (.ref l q)) ∨ ∃ l q, t = .d (.sref l q)) : OpOK E o s fr t none := by
  have hm : x ∈ o.op.operands := by rw [ho]; simp [Op.operands]
  refine .pure (fun b' hb' => ⟨x, hm, by rw [hx]; exact hb'⟩) fun S base0 w0 s' ρ a w hs g => ⟨a.eval x, ?_, by have := evData hs g hm hx; exact this⟩
  have hv : ∃ ad, a.eval x = .pointer (some ad) := by
    have hd := evData hs g hm hx
    generalize a.eval x = v at hd
    rcases ht with ⟨l, q, rfl⟩ | ⟨l, q, rfl⟩
    · cases hd; exact ⟨_, rfl⟩
    · cases hd; exact ⟨_, rfl⟩
  obtain ⟨ad, hv⟩ := hv
  simp only [execOp, ho, hv, Sem.run_pure]
theorem exec_indexArr {a : Act} {w : World} {t : TypeId} {x ix : Operand} {i : TI} {z : Int} {k : IntKind} (ho : o.op = .indexAddr t x ix) (hY : E.Y t = some i) (he : i.esz ≠ 0) (hl : i.len ≠ 0) (hi : a.eval ix = .int k z) (h0 : 0 ≤ z) (h1 : z < (i.len : Int)) {r q : Nat} (hx : a.eval x = .pointer (some ⟨r, q, none⟩)) :
    (execOp a.eval o).run E.P w = .ok (.value (.pointer (some ⟨r, q + z.toNat * i.esz, none⟩))) w := by
  obtain ⟨_, j, h4, h5⟩ := (E.hY t i hY).arr he
  have hu := (E.hY t i hY).alen hl
  have h6 : E.P.cellsOf i.elem = i.esz := by simp [Program.cellsOf, h4, h5]
  simp only [execOp, ho, hx, hi, Instr.indexAt, asIntOf, Instr.sureAddr, Sem.run_bind, Sem.run_pure, Result.andThen_ok, run_underlying hu w, h0, h1, and_self, if_true, run_sizeOf w h4, add_at, h6]
theorem exec_indexSl {a : Act} {w : World} {t : TypeId} {x ix : Operand} {i : TI} {z : Int} {k : IntKind} {n c : Nat} (ho : o.op = .indexAddr t x ix) (hY : E.Y t = some i) (he : i.esz ≠ 0) (hl : i.sl = true) (hi : a.eval ix = .int k z) (h0 : 0 ≤ z) (h1 : z < (n : Int)) {r q : Nat} (hx : a.eval x = .slice (some ⟨r, q, none⟩) n c) :
    (execOp a.eval o).run E.P w = .ok (.value (.pointer (some ⟨r, q + z.toNat * i.esz, none⟩))) w := by
  obtain ⟨_, j, h4, h5⟩ := (E.hY t i hY).arr he
  have hu := (E.hY t i hY).sl hl
  have h6 : E.P.cellsOf i.elem = i.esz := by simp [Program.cellsOf, h4, h5]
  simp only [execOp, ho, hx, hi, Instr.indexAt, asIntOf, Sem.run_bind, Sem.run_pure, Result.andThen_ok, run_underlying hu w, h0, h1, and_self, if_true, run_sizeOf w h4, add_at, h6]
theorem ok_indexArr {t : TypeId} {x ix : Operand} {i : TI} {z : Int} {k : IntKind} (ho : o.op = .indexAddr t x ix) (hY : E.Y t = some i) (he : i.esz ≠ 0) (hl : i.len ≠ 0) (hi : s.ev ix = .d (.v (.int k z))) (h0 : 0 ≤ z) (h1 : z < (i.len : Int)) {b base : Nat} {t2 : T}
    (h : s.ev x = .ptr b base ∧ t2 = .pti b base (z.toNat * i.esz) ∨ ∃ rel, s.ev x = .pti b base rel ∧ t2 = .pti b base (rel + z.toNat * i.esz)) : OpOK E o s fr t2 none := by
  have hm : x ∈ o.op.operands := by rw [ho]; simp [Op.operands]
  have hm2 : ix ∈ o.op.operands := by rw [ho]; simp [Op.operands]
  have hr : b ∈ (s.ev x).refs := by rcases h with ⟨h, _⟩ | ⟨rel, h, _⟩ <;> rw [h] <;> simp [T.refs]
  refine .pure ?_ fun S base0 w0 s' ρ a w hs g => ?_
  · intro b' hb'
    refine ⟨x, hm, ?_⟩
    rcases h with ⟨h, rfl⟩ | ⟨rel, h, rfl⟩ <;> rw [h] <;> simpa [T.refs] using hb'
  · obtain ⟨u, hu⟩ := g.ref (g.evRefs x b (by rw [(hs x hm).1]; exact hr))
    rcases h with ⟨h, rfl⟩ | ⟨rel, h, rfl⟩
    · obtain ⟨r, hR, h2⟩ := evData hs g hm h u hu
      refine ⟨_, exec_indexArr ho hY he hl (evPlain hs g hm2 hi) h0 h1 h2, fun u' hu' => ?_⟩
      rw [hu] at hu'; cases hu'
      exact ⟨r, hR, rfl⟩
    · obtain ⟨r, hR, h2⟩ := evData hs g hm h u hu
      refine ⟨_, exec_indexArr ho hY he hl (evPlain hs g hm2 hi) h0 h1 h2, fun u' hu' => ?_⟩
      rw [hu] at hu'; cases hu'
      exact ⟨r, hR, by rw [Nat.add_assoc]⟩
theorem ok_indexOwn {t : TypeId} {x ix : Operand} {i : TI} {z : Int} {k : IntKind} {b n sz : Nat} {e : TypeId} {l : List Seg} (ho : o.op = .indexAddr t x ix) (hY : E.Y t = some i) (he : i.esz ≠ 0) (hl : i.sl = true) (hi : s.ev ix = .d (.v (.int k z))) (h0 : 0 ≤ z) (h1 : z < (n : Int))
    (hx : s.ev x = .own b n) (hk : s.bk b = some (.sl e sz n l)) : OpOK E o s fr (.ept b n (z.toNat * i.esz)) none := by
  have hm : x ∈ o.op.operands := by rw [ho]; simp [Op.operands]
  have hm2 : ix ∈ o.op.operands := by rw [ho]; simp [Op.operands]
  refine .pure (fun b' hb' => ⟨x, hm, by rw [hx]; simpa [T.refs] using hb'⟩) fun S base0 w0 s' ρ a w hs g => ?_
  obtain ⟨cs, h2, h3, _⟩ := own_now g (((hs x hm).2 b (by rw [hx]; simp [seen, ho, T.refs])).trans hk) (evData hs g hm hx)
  rcases h3.2 with ⟨e1, e2⟩ | ⟨g', cap, cur, e1, _⟩
  · omega
  · refine ⟨_, exec_indexSl ho hY he hl (evPlain hs g hm2 hi) h0 h1 e1, fun u hu => ?_⟩
    rw [h2] at hu; cases hu
    exact ⟨_, n, cap, e1, Nat.le_refl _, fun _ => ⟨g', rfl, by rw [Nat.zero_add]⟩⟩
theorem ok_indexWin {t : TypeId} {x ix : Operand} {i : TI} {z : Int} {k : IntKind} {b base n : Nat} (ho : o.op = .indexAddr t x ix) (hY : E.Y t = some i) (he : i.esz ≠ 0) (hl : i.sl = true) (hi : s.ev ix = .d (.v (.int k z))) (h0 : 0 ≤ z) (h1 : z < (n : Int))
    (hx : s.ev x = .win b base n) : OpOK E o s fr (.pti b base (z.toNat * i.esz)) none := by
  have hm : x ∈ o.op.operands := by rw [ho]; simp [Op.operands]
  have hm2 : ix ∈ o.op.operands := by rw [ho]; simp [Op.operands]
  refine .pure (fun b' hb' => ⟨x, hm, by rw [hx]; simpa [T.refs] using hb'⟩) fun S base0 w0 s' ρ a w hs g => ?_
  have hd := evData hs g hm hx
  obtain ⟨u, hu⟩ := g.ref (g.evRefs x b (by rw [(hs x hm).1, hx]; simp [T.refs]))
  obtain ⟨r, c, h2, h3, h4, h5⟩ := hd u hu
  refine ⟨_, exec_indexSl ho hY he hl (evPlain hs g hm2 hi) h0 h1 h3, fun u' hu' => ?_⟩
  rw [hu] at hu'; cases hu'
  exact ⟨r, h2, rfl⟩
theorem ok_indexRow {t : TypeId} {x ix : Operand} {i : TI} {z : Int} {k : IntKind} {n : Nat} {l : List Seg} (ho : o.op = .indexAddr t x ix) (hY : E.Y t = some i) (he : i.esz ≠ 0) (hl : i.sl = true) (hi : s.ev ix = .d (.v (.int k z))) (h0 : 0 ≤ z) (h1 : z < (n : Int))
    (hx : s.ev x = .d (.row n l)) (hn : n * i.esz = segN l) : OpOK E o s fr (.d (.ref l (z.toNat * i.esz))) none := by
  have hm : x ∈ o.op.operands := by rw [ho]; simp [Op.operands]
  have hm2 : ix ∈ o.op.operands := by rw [ho]; simp [Op.operands]
  refine .pure (fun b' hb' => by simp [T.refs] at hb') fun S base0 w0 s' ρ a w hs g => ?_
  have h2 := evData hs g hm hx
  generalize hv : a.eval x = v at h2
  cases h2 with
  | row k h3 h4 h5 h6 =>
    rename_i c cs ad
    rcases h6 with h6 | ⟨b, q, rfl, h7, h8, h9⟩
    · exfalso
      have := k.len
      rw [h6] at this
      have h10 : 0 < n := by omega
      have : 0 < n * i.esz := Nat.mul_pos h10 (Nat.pos_of_ne_zero he)
      simp at *; omega
    · exact ⟨_, exec_indexSl ho hY he hl (evPlain hs g hm2 hi) h0 h1 hv, .ref k (.inr ⟨b, q, rfl, h7, h8, h9⟩)⟩

theorem ok_indexSref {t : TypeId} {x ix : Operand} {i : TI} {z : Int} {k : IntKind} {l pre post : List Seg} {sg : Seg} {off rel : Nat} (ho : o.op = .indexAddr t x ix) (hY : E.Y t = some i) (he : i.esz ≠ 0) (hl : i.len ≠ 0) (hi : s.ev ix = .d (.v (.int k z))) (h0 : 0 ≤ z) (h1 : z < (i.len : Int))
    (hx : s.ev x = .d (.sref l off)) (hc : loc l off = some (pre, sg, post, rel)) : OpOK E o s fr (.d (.ref [sg] (rel + z.toNat * i.esz))) none := by
  have hm : x ∈ o.op.operands := by rw [ho]; simp [Op.operands]
  have hm2 : ix ∈ o.op.operands := by rw [ho]; simp [Op.operands]
  refine .pure (fun b' hb' => by simp [T.refs] at hb') fun S base0 w0 s' ρ a w hs g => ?_
  have h2 := evData hs g hm hx
  generalize hv : a.eval x = v at h2
  cases h2 with
  | sref k h4 =>
    rename_i b q cs
    obtain ⟨c, d, e, rfl, k1, k2, k3, k4, k5, k6⟩ := k.found hc
    refine ⟨_, exec_indexArr ho hY he hl (evPlain hs g hm2 hi) h0 h1 hv, ?_⟩
    have hq : q + off + z.toNat * i.esz = (q + c.length) + (rel + z.toNat * i.esz) := by omega
    rw [hq]
    refine .ref k2 ?_
    rcases h4 with h4 | ⟨b', q', h5, h6, h7, h8⟩
    · left
      simp at h4
      exact h4.2.1
    · cases h5
      refine .inr ⟨b, q + c.length, rfl, h6, h7, fun j hj => ?_⟩
      have hj2 : c.length + j < (c ++ (d ++ e)).length := by simp; omega
      have := h8 (c.length + j) hj2
      rw [Nat.add_assoc, this]
      simp [List.getElem_append_right, List.getElem_append_left hj]
theorem ok_indexRecs {t : TypeId} {x ix : Operand} {i : TI} {z : Int} {k : IntKind} {n : Nat} {f : Nat → List Seg} (ho : o.op = .indexAddr t x ix) (hY : E.Y t = some i) (he : i.esz ≠ 0) (hl : i.sl = true) (hi : s.ev ix = .d (.v (.int k z))) (h0 : 0 ≤ z) (h1 : z < (n : Int))
    (hx : s.ev x = .d (.recs n i.esz f)) : OpOK E o s fr (.d (.sref (f z.toNat) 0)) none := by
  have hm : x ∈ o.op.operands := by rw [ho]; simp [Op.operands]
  have hm2 : ix ∈ o.op.operands := by rw [ho]; simp [Op.operands]
  refine .pure (fun b' hb' => by simp [T.refs] at hb') fun S base0 w0 s' ρ a w hs g => ?_
  have h2 := evData hs g hm hx
  generalize hv : a.eval x = v at h2
  cases h2 with
  | recs k h3 h4 h5 h6 =>
    rename_i c cs ad
    have hz : z.toNat < n := by omega
    rcases h6 with h6 | ⟨b, q, rfl, h7⟩
    · omega
    · exact ⟨_, exec_indexSl ho hY he hl (evPlain hs g hm2 hi) h0 h1 hv, .sref (off := 0) (k _ hz) (h7 _ hz)⟩

/-- a part of an aggregate's cells -/
theorem exec_indexRef {a : Act} {w : World} {t : TypeId} {x ix : Operand} {i : TI} {z : Int} {k : IntKind} (ho : o.op = .indexAddr t x ix) (hY : E.Y t = some i) (he : i.esz ≠ 0) (hl : i.len ≠ 0) (hi : a.eval ix = .int k z) (h0 : 0 ≤ z) (h1 : z < (i.len : Int)) {r q : Nat} (h2 : a.eval x = .pointer (some ⟨r, q, none⟩)) :
    (execOp a.eval o).run E.P w = .ok (.value (.pointer (some ⟨r, q + z.toNat * i.esz, none⟩))) w := exec_indexArr ho hY he hl hi h0 h1 h2
theorem ok_indexEpt {t : TypeId} {x ix : Operand} {i : TI} {z : Int} {k : IntKind} {b n off sz : Nat} {e : TypeId} {l : List Seg} (ho : o.op = .indexAddr t x ix) (hY : E.Y t = some i) (he : i.esz ≠ 0) (hl : i.len ≠ 0) (hi : s.ev ix = .d (.v (.int k z))) (h0 : 0 ≤ z) (h1 : z < (i.len : Int))
    (hx : s.ev x = .ept b n off) (hk : s.bk b = some (.sl e sz n l)) : OpOK E o s fr (.ept b n (off + z.toNat * i.esz)) none := by
  have hm : x ∈ o.op.operands := by rw [ho]; simp [Op.operands]
  have hm2 : ix ∈ o.op.operands := by rw [ho]; simp [Op.operands]
  refine .pure (fun b' hb' => ⟨x, hm, by rw [hx]; simpa [T.refs] using hb'⟩) fun S base0 w0 s' ρ a w hs g => ?_
  obtain ⟨r, c, hu, h2⟩ := ept_now g (((hs x hm).2 b (by rw [hx]; simp [seen, ho, T.refs])).trans hk) (evData hs g hm hx)
  refine ⟨_, exec_indexRef ho hY he hl (evPlain hs g hm2 hi) h0 h1 h2, fun u' hu' => ?_⟩
  rw [hu] at hu'; cases hu'
  exact ⟨_, n, c, rfl, Nat.le_refl _, fun _ => ⟨r, rfl, rfl⟩⟩
theorem ok_nilCheck {x : Operand} {t : T} (ho : o.op = .nilCheck x) (hx : (∃ b base, s.ev x = .ptr b base ∧ t = .ptr b base) ∨ ∃ b base rel, s.ev x = .pti b base rel ∧ t = .pti b base rel) : OpOK E o s fr t none := by
  have hm : x ∈ o.op.operands := by rw [ho]; simp [Op.operands]
  have ht : s.ev x = t := by rcases hx with ⟨_, _, h, rfl⟩ | ⟨_, _, _, h, rfl⟩ <;> exact h
  refine .pure (fun b' hb' => ⟨x, hm, by rw [ht]; exact hb'⟩) fun S base0 w0 s' ρ a w hs g => ⟨a.eval x, ?_, by have := evData hs g hm ht; exact this⟩
  have hv : ∃ ad, a.eval x = .pointer (some ad) := by
    have hd := evData hs g hm ht
    have hr := g.evRefs x
    rw [(hs x hm).1, ht] at hr
    rcases hx with ⟨b, base, _, rfl⟩ | ⟨b, base, rel, _, rfl⟩
    · obtain ⟨u, hu⟩ := g.ref (hr b (by simp [T.refs]))
      obtain ⟨r, _, h2⟩ := hd u hu
      exact ⟨_, h2⟩
    · obtain ⟨u, hu⟩ := g.ref (hr b (by simp [T.refs]))
      obtain ⟨r, _, h2⟩ := hd u hu
      exact ⟨_, h2⟩
  obtain ⟨ad, hv⟩ := hv
  simp only [execOp, ho, hv, Sem.run_pure]
theorem ok_indexRef {t : TypeId} {x ix : Operand} {i : TI} {z : Int} {k : IntKind} {l : List Seg} {off : Nat} (ho : o.op = .indexAddr t x ix) (hY : E.Y t = some i) (he : i.esz ≠ 0) (hl : i.len ≠ 0) (hi : s.ev ix = .d (.v (.int k z))) (h0 : 0 ≤ z) (h1 : z < (i.len : Int))
    (hx : evG E.G s x = .d (.ref l off)) : OpOK E o s fr (.d (.ref l (off + z.toNat * i.esz))) none := by
  have hm : x ∈ o.op.operands := by rw [ho]; simp [Op.operands]
  have hm2 : ix ∈ o.op.operands := by rw [ho]; simp [Op.operands]
  refine .pure (fun b' hb' => by simp [T.refs] at hb') fun S base0 w0 s' ρ a w hs g => ?_
  have h2 := evRef hs g hm hx
  generalize hv : a.eval x = v at h2
  cases h2 with
  | ref k h4 =>
    refine ⟨_, exec_indexRef ho hY he hl (evPlain hs g hm2 hi) h0 h1 hv, ?_⟩
    rw [Nat.add_assoc]
    exact .ref k h4

theorem run_part {w : World} {t : TypeId} {j : TI} (hY : E.Y t = some j) {D : Nat → Prop} {off n : Nat} {cs : List Value} {x : A} (hn : j.agg = true → j.sz = n)
    (hx : (j.agg = true → off + n ≤ cs.length ∧ RA D w x (.agg ((cs.drop off).take n).toArray)) ∧ (j.agg = false → ∃ v, cs[off]? = some v ∧ RA D w x v ∧ v.oneCell' = true)) :
    ∃ v, (part t cs.toArray off).run E.P w = .ok v w ∧ RA D w x v := by
  obtain ⟨f, z, hf, hs2, _⟩ := (E.hY t j hY).info
  obtain ⟨d, hd⟩ := (E.hY t j hY).und
  have hag : (isAgg t).run E.P w = .ok j.agg w := by
    have h1 := (E.hY t j hY).agg
    unfold aggOf at h1
    rw [hd] at h1
    rw [← h1]
    unfold isAgg
    rw [Sem.run_bind, run_underlying hd w]
    cases d <;> simp_all
  cases ha : j.agg with
  | true =>
    obtain ⟨h1, h2⟩ := hx.1 ha
    refine ⟨_, ?_, h2⟩
    simp only [part, Sem.run_bind, hag, ha, Result.andThen_ok, if_true, run_sizeOf w hf, Sem.run_pure]
    congr 2
    rw [show E.P.cellsOf t = n by simp [Program.cellsOf, hf, hs2, hn ha]]
    apply Array.ext_getElem?
    intro m
    simp only [Array.getElem?_extract, List.getElem?_toArray, List.getElem?_take, List.getElem?_drop, List.size_toArray]
    by_cases hm : m < n
    · rw [if_pos (by omega), if_pos hm]
    · rw [if_neg (by omega), if_neg hm]
  | false =>
    obtain ⟨v, h1, h2, h3⟩ := hx.2 ha
    refine ⟨v, ?_, h2⟩
    simp only [part, Sem.run_bind, hag, ha, Result.andThen_ok, Bool.false_eq_true, if_false]
    simp [h1]
theorem ok_index {t : TypeId} {x ix : Operand} {i j : TI} {z : Int} {k : IntKind} {l : List Seg} {d : A} (ho : o.op = .index t x ix) (hY : E.Y t = some i) (he : i.esz ≠ 0) (hl : i.len ≠ 0) (hx : s.ev x = .d (.agg l)) (hi : s.ev ix = .d (.v (.int k z))) (hj : E.Y i.elem = some j) (h0 : 0 ≤ z) (h1 : z < (i.len : Int))
    (hd : ∀ {S : Nat → Prop} {w : World} {cs : List Value}, RL S w l cs → (j.agg = true → 0 + z.toNat * i.esz + i.esz ≤ cs.length ∧ RA S w d (.agg ((cs.drop (0 + z.toNat * i.esz)).take i.esz).toArray)) ∧ (j.agg = false → ∃ v, cs[0 + z.toNat * i.esz]? = some v ∧ RA S w d v ∧ v.oneCell' = true)) :
    OpOK E o s fr (.d d) none := by
  have hm : x ∈ o.op.operands := by rw [ho]; simp [Op.operands]
  have hm2 : ix ∈ o.op.operands := by rw [ho]; simp [Op.operands]
  refine .pure (fun b' hb' => by simp [T.refs] at hb') fun S base0 w0 s' ρ a w hs g => ?_
  have h2 := evData hs g hm hx
  generalize hv : a.eval x = v at h2
  obtain ⟨_, f, h4, h5⟩ := (E.hY t i hY).arr he
  have hu := (E.hY t i hY).alen hl
  have h6 : E.P.cellsOf i.elem = i.esz := by simp [Program.cellsOf, h4, h5]
  cases h2 with
  | agg k =>
    obtain ⟨v, h7, h8⟩ := run_part hj (n := i.esz) (fun _ => by obtain ⟨f', z', hf', hs', _⟩ := (E.hY _ j hj).info; rw [h4] at hf'; cases hf'; omega) (hd k)
    refine ⟨v, ?_, h8⟩
    rw [Nat.zero_add] at h7
    simp only [execOp, ho, hv, evPlain hs g hm2 hi, Instr.index, asIntOf, Sem.run_bind, Sem.run_pure, Result.andThen_ok, run_underlying hu w, h0, h1, and_self, if_true, run_sizeOf w h4, h6, h7]
theorem ok_field {t ft : TypeId} {x : Operand} {f off : Nat} {i j : TI} {l : List Seg} {d : A} (ho : o.op = .field t x f) (hY : E.Y t = some i) (hf : i.fld[f]? = some off) (hft : i.fty[f]? = some ft) (hx : s.ev x = .d (.agg l)) (hj : E.Y ft = some j)
    (hd : ∀ {S : Nat → Prop} {w : World} {cs : List Value}, RL S w l cs → (j.agg = true → off + j.sz ≤ cs.length ∧ RA S w d (.agg ((cs.drop off).take j.sz).toArray)) ∧ (j.agg = false → ∃ v, cs[off]? = some v ∧ RA S w d v ∧ v.oneCell' = true)) :
    OpOK E o s fr (.d d) none := by
  have hm : x ∈ o.op.operands := by rw [ho]; simp [Op.operands]
  refine .pure (fun b' hb' => by simp [T.refs] at hb') fun S base0 w0 s' ρ a w hs g => ?_
  have h2 := evData hs g hm hx
  generalize hv : a.eval x = v at h2
  obtain ⟨fs, y, f', h3, h4, h5, h6, h7, h8⟩ := (E.hY t i hY).fld f off hf
  rw [hft] at h6; cases h6
  cases h2 with
  | agg k =>
    obtain ⟨v, h9, h10⟩ := run_part hj (n := j.sz) (fun _ => rfl) (hd k)
    refine ⟨v, ?_, h10⟩
    rw [← h5] at h9
    simp only [execOp, ho, hv, Instr.field, asAgg, Sem.run_bind, Sem.run_pure, Result.andThen_ok, run_underlying h3 w, h4, h9]

theorem ok_conv {src dst : TypeId} {x : Operand} {i si : TI} {z : Int} {k q : IntKind} (ho : o.op = .convert src dst x) (hs' : E.Y src = some si) (hY : E.Y dst = some i) (hx : s.ev x = .d (.v (.int k z))) (hk : i.knd = some q) : OpOK E o s fr (.d (.v (.int q (q.wrap z)))) none := by
  refine .pure (fun b hb => by simp [T.refs] at hb) fun S base w0 s' ρ a w hs g => ⟨_, ?_, .v _⟩
  have h1 := evPlain hs g (by rw [ho]; simp [Op.operands]) hx
  obtain ⟨d, hd⟩ := (E.hY src si hs').und
  have hu := (E.hY dst i hY).knd q hk
  simp only [execOp, ho, h1, convert, Sem.run_bind, run_underlying hd w, run_underlying hu w, Result.andThen_ok, Conv.intToInt, Sem.run_pure]

theorem ok_win {t : TypeId} {x : Operand} {i : TI} {b base : Nat} (ho : o.op = .slice t x none none none) (hY : E.Y t = some i) (hl : i.len ≠ 0) (he : i.esz = 1) (hm : i.len ≤ 1000000) (hx : s.ev x = .ptr b base) : OpOK E o s fr (.win b base i.len) none := by
  have hm1 : x ∈ o.op.operands := by rw [ho]; simp [Op.operands]
  refine .pure (fun b' hb' => ⟨x, hm1, by rw [hx]; simpa [T.refs] using hb'⟩) fun S base0 w0 s' ρ a w hs g => ?_
  obtain ⟨u, hu⟩ := g.ref (g.evRefs x b (by rw [(hs x hm1).1, hx]; simp [T.refs]))
  obtain ⟨r, hR, h2⟩ := evData hs g hm1 hx u hu
  obtain ⟨_, f, h4, h5⟩ := (E.hY t i hY).arr (by omega)
  have hua := (E.hY t i hY).alen hl
  refine ⟨.slice (some ⟨r, base, none⟩) i.len i.len, ?_, fun u' hu' => ?_⟩
  · simp only [execOp, ho, h2, Instr.sliceAt, Instr.sureAddr, Instr.sliceBounds, Option.map_none, Sem.run_bind, Sem.run_pure, Result.andThen_ok, run_underlying hua w, run_sizeOf w h4, Nat.zero_mul, Nat.sub_zero, add_at, Nat.add_zero]
    simp
  · rw [hu] at hu'; cases hu'
    exact ⟨r, i.len, hR, rfl, Nat.le_refl _, by unfold maxLen; omega⟩
theorem ok_winH {t : TypeId} {x y : Operand} {i : TI} {b base : Nat} {z : Int} (ho : o.op = .slice t x none (some y) none) (hY : E.Y t = some i) (hl : i.len ≠ 0) (he : i.esz = 1) (hm : i.len ≤ 1000000) (hx : s.ev x = .ptr b base) (hy : s.ev y = .d (.v (.int .i64 z))) (h0 : 0 ≤ z) (hz : z.toNat ≤ i.len) : OpOK E o s fr (.win b base z.toNat) none := by
  have hm1 : x ∈ o.op.operands := by rw [ho]; simp [Op.operands]
  have hm2 : y ∈ o.op.operands := by rw [ho]; simp [Op.operands]
  refine .pure (fun b' hb' => ⟨x, hm1, by rw [hx]; simpa [T.refs] using hb'⟩) fun S base0 w0 s' ρ a w hs g => ?_
  obtain ⟨u, hu⟩ := g.ref (g.evRefs x b (by rw [(hs x hm1).1, hx]; simp [T.refs]))
  obtain ⟨r, hR, h2⟩ := evData hs g hm1 hx u hu
  have h3 := evPlain hs g hm2 hy
  obtain ⟨_, f, h4, h5⟩ := (E.hY t i hY).arr (by omega)
  have hua := (E.hY t i hY).alen hl
  refine ⟨.slice (some ⟨r, base, none⟩) z.toNat i.len, ?_, fun u' hu' => ?_⟩
  · simp only [execOp, ho, h2, h3, Instr.sliceAt, Instr.sureAddr, Instr.sliceBounds, Option.map_none, Option.map_some, Sem.run_bind, Sem.run_pure, Result.andThen_ok, run_underlying hua w, run_sliceBound (P := E.P) w .i64 z i.len _ h0 (by omega), run_sizeOf w h4, Nat.zero_mul, Nat.sub_zero, add_at, Nat.add_zero]
    simp
  · rw [hu] at hu'; cases hu'
    exact ⟨r, i.len, hR, rfl, hz, by unfold maxLen; omega⟩
theorem ok_toArr {t : TypeId} {x : Operand} {i : TI} {n : Nat} {l : List Seg} (ho : o.op = .sliceToArrayPointer t x) (hY : E.Y t = some i) (hl : i.len ≠ 0) (hn : i.len ≤ n) (hs0 : segN l ≠ 0) (hx : s.ev x = .d (.row n l)) : OpOK E o s fr (.d (.sref l 0)) none := by
  have hm1 : x ∈ o.op.operands := by rw [ho]; simp [Op.operands]
  refine .pure (fun b hb => by simp [T.refs] at hb) fun S base0 w0 s' ρ a w hs g => ?_
  have h1 := evData hs g hm1 hx
  have hua := (E.hY t i hY).alen hl
  generalize hv : a.eval x = v at h1
  cases h1 with
  | row k h4 h5 h6 h7 =>
    rename_i c cs ad
    have hlen := k.len
    rcases h7 with h7 | ⟨q, o', rfl, e1, e2, e3⟩
    · rw [h7] at hlen; exact absurd hlen.symm hs0
    · refine ⟨.pointer (some ⟨q, o', none⟩), ?_, .sref (o := o') k (.inr ⟨q, o', rfl, e1, e2, e3⟩)⟩
      simp [execOp, ho, hv, Instr.arrayAt, Sem.run_bind, run_underlying hua w, Nat.not_lt.2 hn]
theorem ok_len {t : TypeId} {x : Operand} {c : Call} {i : TI} {n : Nat} (ho : o.op = .call c) (hc : c.callee = .builtin .len) (ha : c.args.toList = [x]) (ht : c.argTypes.toList = [t]) (hY : E.Y t = some i) (hs1 : i.sl = true)
    (hx : ((∃ l, s.ev x = .d (.row n l)) ∨ ∃ z f, s.ev x = .d (.recs n z f)) ∨ (∃ b e sz l, s.ev x = .own b n ∧ s.bk b = some (.sl e sz n l)) ∨ (∃ b base, s.ev x = .win b base n) ∨ (∃ ad c, s.ev x = .d (.v (.slice ad n c)))) : OpOK E o s fr (.d (.v (.int .i64 n))) none := by
  have hca : c.args = #[x] := by cases hq : c.args; simp_all
  have hct : c.argTypes = #[t] := by cases hq : c.argTypes; simp_all
  have hm : x ∈ o.op.operands := by rw [ho]; simp [Op.operands, Call.operands, hc, hca]
  refine .pure (fun b hb => by simp [T.refs] at hb) fun S base w0 s' ρ a w hs g => ⟨_, ?_, .v _⟩
  have hu := (E.hY t i hY).sl hs1
  obtain ⟨ad, cp, hv⟩ : ∃ ad cp, a.eval x = .slice ad n cp := by
    rcases hx with (⟨l, hx⟩ | ⟨z9, f9, hx⟩) | ⟨b, e, sz, l, hx, hk⟩ | ⟨b, base, hx⟩ | ⟨_, _, hx⟩
    · have h2 := evData hs g hm hx
      generalize a.eval x = v at h2
      cases h2; exact ⟨_, _, rfl⟩
    · have h2 := evData hs g hm hx
      generalize a.eval x = v at h2
      cases h2; exact ⟨_, _, rfl⟩
    · obtain ⟨cs, h2, h3, _⟩ := own_now g (((hs x hm).2 b (by rw [hx]; simp [seen, ho, T.refs])).trans hk) (evData hs g hm hx)
      rcases h3.2 with ⟨e1, rfl⟩ | ⟨g', cap, cur, e1, _⟩
      · exact ⟨_, _, e1⟩
      · exact ⟨_, _, e1⟩
    · obtain ⟨u, hu'⟩ := g.ref (g.evRefs x b (by rw [(hs x hm).1, hx]; simp [T.refs]))
      obtain ⟨r, c', _, h2, _⟩ := evData hs g hm hx u hu'
      exact ⟨_, _, h2⟩
    · exact ⟨_, _, evPlain hs g hm hx⟩
  simp [execOp, ho, resolve, hc, hca, hct, invoke, builtin, Builtin.len_, hv, Sem.run_bind, run_underlying hu w, goInt]
theorem subK_spec {l : List Seg} {off n : Nat} {K : List Seg → Prop} (h : subK l off n K) : ∃ m, K m ∧ off + n ≤ segN l ∧ ∀ {S : Nat → Prop} {w : World} {cs : List Value}, RL S w l cs → RL S w m ((cs.drop off).take n) := by
  unfold subK at h
  split at h
  · exact ⟨_, h.2, by simp [segN]; omega, fun hl => hl.sub off n h.1⟩
  · split at h
    · next m hm => exact ⟨m, h.2, h.1, fun hl => (hl.cut hm).1⟩
    · exact h.elim
theorem bndK_spec {x : Option Operand} {d : Nat} {K : Nat → Prop} (h : bndK s x d K) : ∃ m, K m ∧ (x = none ∧ m = d ∨ ∃ y z, x = some y ∧ s.ev y = .d (.v (.int .i64 z)) ∧ 0 ≤ z ∧ m = z.toNat) := by
  unfold bndK at h
  split at h
  · exact ⟨_, h, .inl ⟨rfl, rfl⟩⟩
  · next y =>
    split at h
    · next z hz => exact ⟨_, h.2, .inr ⟨y, z, rfl, hz, h.1, rfl⟩⟩
    · exact h.elim
theorem ra_sliced {S : Nat → Prop} {w : World} {n a b e : Nat} {l m : List Seg} {ad : Option Addr} {c : Nat} (h : RA S w (.row n l) (.slice ad n c)) (h1 : a ≤ b) (h2 : b ≤ n) (he : e ≠ 0) (h3 : a * e + (b - a) * e ≤ segN l)
    (hm : ∀ {cs : List Value}, RL S w l cs → RL S w m ((cs.drop (a * e)).take ((b - a) * e))) : RA S w (.row (b - a) m) (sliced ad a b c e) := by
  cases h with
  | row k h4 h5 h6 h7 =>
    rename_i cs
    have hlen := k.len
    unfold sliced
    refine .row (hm k) (by omega) (by omega) (fun hn => ?_) ?_
    · by_cases hc : c = a
      · omega
      · rw [if_neg hc] at hn
        have := h6 (by simpa using hn)
        omega
    · by_cases hab : a = b
      · subst hab; left; rw [Nat.sub_self, Nat.zero_mul, List.take_zero]
      · rcases h7 with h7 | ⟨q, o, rfl, e1, e2, e3⟩
        · left
          rw [h7]; simp
        · right
          rw [if_neg (by omega), Option.map_some, add_at]
          refine ⟨q, o + a * e, rfl, e1, e2, fun i hi => ?_⟩
          simp only [List.length_take, List.length_drop] at hi
          rw [Nat.add_assoc, e3 (a * e + i) (by omega)]
          simp
theorem ok_sub {t : TypeId} {x : Operand} {lo hi : Option Operand} {i : TI} {n a b : Nat} {l m : List Seg} (ho : o.op = .slice t x lo hi none) (hY : E.Y t = some i) (hs1 : i.sl = true) (he : i.esz ≠ 0) (hx : s.ev x = .d (.row n l))
    (ha : lo = none ∧ a = 0 ∨ ∃ y z, lo = some y ∧ s.ev y = .d (.v (.int .i64 z)) ∧ 0 ≤ z ∧ a = z.toNat) (hb : hi = none ∧ b = n ∨ ∃ y z, hi = some y ∧ s.ev y = .d (.v (.int .i64 z)) ∧ 0 ≤ z ∧ b = z.toNat) (h1 : a ≤ b) (h2 : b ≤ n)
    (h3 : a * i.esz + (b - a) * i.esz ≤ segN l) (hm : ∀ {S : Nat → Prop} {w : World} {cs : List Value}, RL S w l cs → RL S w m ((cs.drop (a * i.esz)).take ((b - a) * i.esz))) : OpOK E o s fr (.d (.row (b - a) m)) none := by
  have hm1 : x ∈ o.op.operands := by rw [ho]; simp [Op.operands]
  refine .pure (fun b' hb' => by simp [T.refs] at hb') fun S base0 w0 s' ρ ac w hs g => ?_
  have hr := evData hs g hm1 hx
  have hu := (E.hY t i hY).sl hs1
  have hel : E.P.elem t = i.elem := by unfold Program.elem; rw [hu]
  have hu' : E.P.underlying t = some (.slice (E.P.elem t)) := by rw [hel]; exact hu
  obtain ⟨_, j, hj, hsz⟩ := (E.hY t i hY).arr he
  rw [← hel] at hj
  have hcell : E.P.cellsOf (E.P.elem t) = i.esz := by simp [Program.cellsOf, hj, hsz]
  generalize hv : ac.eval x = v at hr
  obtain ⟨ad, c, rfl⟩ : ∃ ad c, v = .slice ad n c := by cases hr; exact ⟨_, _, rfl⟩
  have hnc : n ≤ c := by cases hr; assumption
  have run1 : (execOp ac.eval o).run E.P w = .ok (.value (sliced ad a b c i.esz)) w := by
    have ek : ∀ y, some y ∈ [lo, hi] → y ∈ o.op.operands := by
      intro y hy
      rw [ho]
      simp only [List.mem_cons, List.not_mem_nil, or_false] at hy
      rcases hy with rfl | rfl
      · simp [Op.operands]
      · simp [Op.operands]
    rcases ha with ⟨rfl, rfl⟩ | ⟨y, z, rfl, hz, hz0, rfl⟩
    · rcases hb with ⟨rfl, rfl⟩ | ⟨y2, z2, rfl, hz2, hz20, rfl⟩
      · simp [execOp, ho, hv, run_sliceAt_slice _ _ _ _ _ _ hu', run_slice_all w t ad b c hu', run_sizeOf w hj, hcell, hsz]
      · have e2 := evPlain hs g (ek y2 (by simp)) hz2
        simp [execOp, ho, hv, e2, run_sliceAt_slice _ _ _ _ _ _ hu', run_slice_h w t ad n c hu' .i64 z2 hz20 (by omega), run_sizeOf w hj, hcell, hsz]
    · have e1 := evPlain hs g (ek y (by simp)) hz
      rcases hb with ⟨rfl, rfl⟩ | ⟨y2, z2, rfl, hz2, hz20, rfl⟩
      · simp [execOp, ho, hv, e1, run_sliceAt_slice _ _ _ _ _ _ hu', run_slice_l w t ad b c hu' .i64 z hz0 (by omega), run_sizeOf w hj, hcell, hsz]
      · have e2 := evPlain hs g (ek y2 (by simp)) hz2
        simp [execOp, ho, hv, e1, e2, run_sliceAt_slice _ _ _ _ _ _ hu', run_slice_lh w t ad n c hu' .i64 .i64 z z2 hz0 (by omega) (by omega), run_sizeOf w hj, hcell, hsz]
  exact ⟨_, run1, ra_sliced hr h1 h2 he h3 hm⟩
theorem ok_pre {t : TypeId} {x : Operand} {hi : Option Operand} {i : TI} {b c n sz : Nat} {e : TypeId} {l : List Seg} (ho : o.op = .slice t x none hi none) (hY : E.Y t = some i) (hs1 : i.sl = true) (he : i.esz ≠ 0) (hx : s.ev x = .own b n) (hk : s.bk b = some (.sl e sz n l))
    (hb : hi = none ∧ c = n ∨ ∃ y z, hi = some y ∧ s.ev y = .d (.v (.int .i64 z)) ∧ 0 ≤ z ∧ c = z.toNat) (h1 : c ≤ n) : OpOK E o s fr (.pre b c n) none := by
  have hm1 : x ∈ o.op.operands := by rw [ho]; simp [Op.operands]
  refine .pure (fun b' hb' => ⟨x, hm1, by rw [hx]; simpa [T.refs] using hb'⟩) fun S base0 w0 s' ρ ac w hs g => ?_
  obtain ⟨cs, k1, k2, k3⟩ := own_now g (((hs x hm1).2 b (by rw [hx]; simp [seen, ho, T.refs])).trans hk) (evData hs g hm1 hx)
  have hu := (E.hY t i hY).sl hs1
  have hel : E.P.elem t = i.elem := by unfold Program.elem; rw [hu]
  have hu' : E.P.underlying t = some (.slice (E.P.elem t)) := by rw [hel]; exact hu
  obtain ⟨_, j, hj, hsz⟩ := (E.hY t i hY).arr he
  rw [← hel] at hj
  have hcell : E.P.cellsOf (E.P.elem t) = i.esz := by simp [Program.cellsOf, hj, hsz]
  generalize hv : ac.eval x = v at k1 k2
  obtain ⟨ad, cp, rfl, hnc⟩ : ∃ ad cp, v = .slice ad n cp ∧ n ≤ cp := by
    rcases k2.2 with ⟨e1, e2⟩ | ⟨r, cap, cur, e1, e3, e4, e5, e6, e7, e8⟩
    · exact ⟨_, _, by rw [e1, e2], by omega⟩
    · exact ⟨_, _, e1, e5⟩
  have run1 : (execOp ac.eval o).run E.P w = .ok (.value (sliced ad 0 c cp i.esz)) w := by
    rcases hb with ⟨rfl, rfl⟩ | ⟨y2, z2, rfl, hz2, hz20, rfl⟩
    · simp [execOp, ho, hv, run_sliceAt_slice _ _ _ _ _ _ hu', run_slice_all w t ad c cp hu', run_sizeOf w hj, hcell, hsz]
    · have e2 := evPlain hs g (by rw [ho]; simp [Op.operands]) hz2
      simp [execOp, ho, hv, e2, run_sliceAt_slice _ _ _ _ _ _ hu', run_slice_h w t ad n cp hu' .i64 z2 hz20 (by omega), run_sizeOf w hj, hcell, hsz]
  refine ⟨_, run1, fun u hu2 => ?_⟩
  rw [k1] at hu2
  cases hu2
  exact ⟨ad, n, cp, rfl, Nat.le_refl _, fun _ => by unfold sliced; simp⟩
end
end Go.Proofs.Ytanpamcecaoanaa
