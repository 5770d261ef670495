/-
  Data told without memory: cells overwritten; slots and blocks of one's own; what they are in a world. No program is named here.
-/
import Derived.Test.YtmddonmjigkjoaaDoorA1
import Derived.Test.YtmddonmjigkjoaaDoorMem2
namespace Go.Proofs.YtmddonmjigkjoaaDoor
set_option maxRecDepth 100000
open Go.RowKit
set_option linter.unusedVariables false
set_option linter.unusedSimpArgs false

section
variable {S S' : Nat → Prop} {w w' : World}

/-- a segment's cells from off on overwritten by those of another one of its kind -/
def Seg.over (s : Seg) (off : Nat) (x : Seg) : Option Seg :=
  match s, x with
  | .ints k n zs, .ints k' m ys => if k = k' then some (.ints k n (zs.take off ++ (ys ++ zs.drop (off + m)))) else none
  | .bytes n bs, .bytes m ys => some (.bytes n (bs.take off ++ (ys ++ bs.drop (off + m))))
  | .bools n bs, .bools m ys => some (.bools n (bs.take off ++ (ys ++ bs.drop (off + m))))
  | .gen n l, .gen m ys => some (.gen n (l.take off ++ (ys ++ l.drop (off + m))))
  | _, _ => none
/-- one cell of a segment overwritten -/
def Seg.setK (s : Seg) (i : Nat) (a : A) (K : Seg → Prop) : Prop :=
  match s with
  | .ints k n zs => (match a with | .v (.int k' z) => k' = k ∧ K (.ints k n (zs.set i z)) | _ => False)
  | .bytes n bs => (match a with | .v (.int k' z) => k' = .u8 ∧ 0 ≤ z ∧ z < 256 ∧ K (.bytes n (bs.set i (UInt8.ofNat z.toNat))) | _ => False)
  | .bools n bs => (match a with | .v (.bool b) => K (.bools n (bs.set i b)) | _ => False)
  | .gen n l => (match a with | .v x => x.oneCell' = true ∧ K (.gen n (l.set i (.v x))) | .row m r => K (.gen n (l.set i (.row m r))) | .ref r o => K (.gen n (l.set i (.ref r o))) | .agg _ => False)

theorem RG.append : ∀ {l m : List A} {cs ds : List Value}, RG S w l cs → RG S w m ds → RG S w (l ++ m) (cs ++ ds)
  | _, _, _, _, .nil, k => k
  | _, _, _, _, .cons h h1 r, k => .cons h h1 (r.append k)
theorem RG.drop : ∀ {l : List A} {cs : List Value}, RG S w l cs → ∀ n, RG S w (l.drop n) (cs.drop n)
  | _, _, .nil, n => by simp; exact .nil
  | _, _, .cons h h1 r, 0 => .cons h h1 r
  | _, _, .cons h h1 r, n + 1 => by simpa using r.drop n
theorem RG.take : ∀ {l : List A} {cs : List Value}, RG S w l cs → ∀ n, RG S w (l.take n) (cs.take n)
  | _, _, .nil, n => by simp; exact .nil
  | _, _, .cons h h1 r, 0 => by simp; exact .nil
  | _, _, .cons h h1 r, n + 1 => by simpa using .cons h h1 (r.take n)
theorem RG.set : ∀ {l : List A} {cs : List Value}, RG S w l cs → ∀ (i : Nat) {a : A} {v : Value}, RA S w a v → v.oneCell' = true → RG S w (l.set i a) (cs.set i v)
  | _, _, .nil, i, _, _, _, _ => by simp; exact .nil
  | _, _, .cons h h1 r, 0, _, _, k, k1 => by simpa using .cons k k1 r
  | _, _, .cons h h1 r, i + 1, _, _, k, k1 => by simpa using .cons h h1 (r.set i k k1)

theorem RL.over {s x s' : Seg} {cs vs : List Value} (h : RL S w [s] cs) (kx : RL S w [x] vs) (off : Nat) (e : s.over off x = some s') (hn : off + x.n ≤ s.n) :
    RL S w [s'] (cs.take off ++ (vs ++ cs.drop (off + vs.length))) ∧ s'.n = s.n := by
  cases s <;> cases x <;> simp only [Seg.over, reduceCtorEq] at e
  case ints.ints k n zs k' m ys =>
    by_cases hk : k = k'
    · rw [if_pos hk] at e; cases e; subst hk
      obtain ⟨h1, rfl⟩ := h.toInts
      obtain ⟨h2, rfl⟩ := kx.toInts
      simp only [Seg.n] at hn
      exact ⟨.ofInts (by simp; omega) (by simp [h2, List.map_take, List.map_drop]), rfl⟩
    · rw [if_neg hk] at e; cases e
  case bytes.bytes n bs m ys =>
    cases e
    obtain ⟨h1, rfl⟩ := h.toBytes
    obtain ⟨h2, rfl⟩ := kx.toBytes
    simp only [Seg.n] at hn
    exact ⟨.ofBytes (by simp; omega) (by simp [HL, h2, List.map_take, List.map_drop]), rfl⟩
  case bools.bools n bs m ys =>
    cases e
    obtain ⟨h1, rfl⟩ := h.toBools
    obtain ⟨h2, rfl⟩ := kx.toBools
    simp only [Seg.n] at hn
    exact ⟨.ofBools (by simp; omega) (by simp [h2, List.map_take, List.map_drop]), rfl⟩
  case gen.gen n l m ys =>
    cases e
    obtain ⟨h1, g⟩ := h.toGen
    obtain ⟨h2, g2⟩ := kx.toGen
    simp only [Seg.n] at hn
    refine ⟨.ofGen (by simp; omega) ?_, rfl⟩
    have := (g.take off).append (g2.append (g.drop (off + m)))
    rw [show vs.length = m by rw [g2.len, h2]]
    exact this
theorem Bt_ofNat {z : Int} (h0 : 0 ≤ z) (h1 : z < 256) : Bt (UInt8.ofNat z.toNat) = z := by
  unfold Bt
  rw [UInt8.toNat_ofNat']
  omega
theorem RL.set {s : Seg} {i : Nat} {a : A} {K : Seg → Prop} (e : s.setK i a K) {cs : List Value} {v : Value} (h : RL S w [s] cs) (hv : RA S w a v) : ∃ s', K s' ∧ RL S w [s'] (cs.set i v) ∧ s'.n = s.n ∧ v.oneCell' = true := by
  cases s with
  | ints k n zs =>
    simp only [Seg.setK] at e
    split at e
    · obtain ⟨rfl, hK⟩ := e
      cases hv
      obtain ⟨h1, rfl⟩ := h.toInts
      exact ⟨_, hK, .ofInts (by simp [h1]) (by simp [List.map_set]), rfl, rfl⟩
    · exact e.elim
  | bytes n bs =>
    simp only [Seg.setK] at e
    split at e
    · obtain ⟨rfl, h0, h2, hK⟩ := e
      cases hv
      obtain ⟨h1, rfl⟩ := h.toBytes
      exact ⟨_, hK, .ofBytes (by simp [h1]) (by simp [HL, List.map_set, Bt_ofNat h0 h2]), rfl, rfl⟩
    · exact e.elim
  | bools n bs =>
    simp only [Seg.setK] at e
    split at e
    · cases hv
      obtain ⟨h1, rfl⟩ := h.toBools
      exact ⟨_, e, .ofBools (by simp [h1]) (by simp [List.map_set]), rfl, rfl⟩
    · exact e.elim
  | gen n l =>
    obtain ⟨h1, g⟩ := h.toGen
    simp only [Seg.setK] at e
    split at e
    · cases hv
      exact ⟨_, e.2, .ofGen (by simp [h1]) (g.set i (.v _) e.1), rfl, e.1⟩
    · cases hv with | row a b c d f => exact ⟨_, e, .ofGen (by simp [h1]) (g.set i (.row a b c d f) rfl), rfl, rfl⟩
    · cases hv with | ref a b => exact ⟨_, e, .ofGen (by simp [h1]) (g.set i (.ref a b) rfl), rfl, rfl⟩
    · exact e.elim

/-- segments laid over others from cell base on -/
def put : List Seg → Nat → List Seg → Option (List Seg)
  | l, _, [] => some l
  | [], _, _ :: _ => none
  | s :: l, base, x :: new =>
    if s.n ≤ base then (put l (base - s.n) (x :: new)).map (s :: ·)
    else if base = 0 ∧ x.n = s.n then (put l 0 new).map (x :: ·)
    else match new with
      | [] => if base + x.n ≤ s.n then (s.over base x).map (· :: l) else none
      | _ :: _ => none
theorem RL.put : ∀ {l : List Seg} {cs : List Value} {base : Nat} {new : List Seg} {vs : List Value} {l' : List Seg}, RL S w l cs → RL S w new vs → put l base new = some l' →
    RL S w l' (cs.take base ++ (vs ++ cs.drop (base + vs.length))) ∧ (base + vs.length ≤ cs.length ∨ vs = [])
  | l, cs, base, [], vs, l', h, k, e => by
    cases k.nil_inv
    simp only [Go.Proofs.YtmddonmjigkjoaaDoor.put] at e; cases e
    exact ⟨by simpa using h, .inr rfl⟩
  | [], cs, base, x :: new, vs, l', h, k, e => by simp [Go.Proofs.YtmddonmjigkjoaaDoor.put] at e
  | s :: l, cs, base, x :: new, vs, l', h, k, e => by
    unfold Go.Proofs.YtmddonmjigkjoaaDoor.put at e
    obtain ⟨c, d, rfl, h1, h2, h3⟩ := h.head
    by_cases hs : s.n ≤ base
    · rw [if_pos hs] at e
      cases hq : Go.Proofs.YtmddonmjigkjoaaDoor.put l (base - s.n) (x :: new) with
      | none => rw [hq] at e; cases e
      | some m =>
        rw [hq] at e; cases e
        obtain ⟨k1, k2⟩ := h2.put k hq
        refine ⟨?_, by rcases k2 with k2 | k2; left; simp; omega; exact .inr k2⟩
        have := h1.append k1
        rw [List.take_append, List.take_of_length_le (by omega), List.append_assoc, h3, List.drop_append, List.drop_of_length_le (by omega), List.nil_append, h3, show base + vs.length - s.n = base - s.n + vs.length by omega]
        simpa using this
    rw [if_neg hs] at e
    by_cases hz : base = 0 ∧ x.n = s.n
    · rw [if_pos hz] at e
      obtain ⟨rfl, hx⟩ := hz
      obtain ⟨c2, d2, rfl, k1, k2, k3⟩ := k.head
      cases hq : Go.Proofs.YtmddonmjigkjoaaDoor.put l 0 new with
      | none => rw [hq] at e; cases e
      | some m =>
        rw [hq] at e; cases e
        obtain ⟨k4, k5⟩ := h2.put k2 hq
        refine ⟨?_, .inl ?_⟩
        · have := k1.append k4
          simp only [List.take_zero, List.nil_append, Nat.zero_add] at this ⊢
          rw [List.length_append, List.drop_append, List.drop_of_length_le (by omega), List.nil_append, h3, show c2.length + d2.length - s.n = d2.length by omega, List.append_assoc]
          simpa using this
        · rcases k5 with k5 | k5
          · simp; omega
          · subst k5; simp; omega
    rw [if_neg hz] at e
    cases new with
    | cons y new => simp at e
    | nil =>
      simp only at e
      by_cases ho : base + x.n ≤ s.n
      · rw [if_pos ho] at e
        cases hq : s.over base x with
        | none => rw [hq] at e; cases e
        | some s' =>
          rw [hq] at e; cases e
          have hl : vs.length = x.n := by have := k.len; simpa [segN] using this
          obtain ⟨k1, k2⟩ := h1.over k base hq ho
          refine ⟨?_, .inl (by simp; omega)⟩
          have := k1.append h2
          rw [List.take_append_of_le_length (by omega), List.drop_append_of_le_length (by omega)]
          simpa using this
      · rw [if_neg ho] at e; cases e
end

/-! slots -/
inductive T where
  | d (a : A)
  | ptr (b base : Nat)
  | pti (b base rel : Nat)
  | own (b n : Nat)
  | win (b base n : Nat)
  | ept (b n off : Nat)
  | tup (l : List A)
  | dead
def T.refs : T → List Nat
  | .ptr b _ | .pti b _ _ | .own b _ | .win b _ _ | .ept b _ _ => [b]
  | _ => []
/-- a block of one's own: a variable; a slice that may be appended to; something of which only this is known -/
inductive Bk where
  | var (l : List Seg)
  | sl (e : TypeId) (sz n : Nat) (l : List Seg)
  | obj (p : List Value → Prop)

def realOf : Value → Option Nat
  | .pointer (some a) => some a.block
  | .slice (some a) _ _ => some a.block
  | _ => none
def nown (ρ : Nat → Option Value) (r : Nat) : Prop := ∀ b u, ρ b = some u → realOf u ≠ some r
/-- where data may lie -/
def Dt (S : Nat → Prop) (base : Nat) (ρ : Nat → Option Value) (r : Nat) : Prop := (S r ∨ base ≤ r) ∧ nown ρ r

inductive RAs (S : Nat → Prop) (w : World) : List A → List Value → Prop
  | nil : RAs S w [] []
  | cons {a : A} {v : Value} {as : List A} {vs : List Value} (h : RA S w a v) (r : RAs S w as vs) : RAs S w (a :: as) (v :: vs)
theorem RAs.up {S S' : Nat → Prop} {w w' : World} (k : Keeps S w S' w') : ∀ {l : List A} {vs : List Value}, RAs S w l vs → RAs S' w' l vs
  | _, _, .nil => .nil
  | _, _, .cons h r => .cons (h.up k) (r.up k)

def RT (D : Nat → Prop) (ρ : Nat → Option Value) (w : World) : T → Value → Prop
  | .d a, v => RA D w a v
  | .ptr b base, v => ∀ u, ρ b = some u → ∃ r, u = .pointer (some ⟨r, 0, none⟩) ∧ v = .pointer (some ⟨r, base, none⟩)
  | .pti b base rel, v => ∀ u, ρ b = some u → ∃ r, u = .pointer (some ⟨r, 0, none⟩) ∧ v = .pointer (some ⟨r, base + rel, none⟩)
  | .own b n, v => ∀ u, ρ b = some u → ∃ a n' c, u = .slice a n' c ∧ n ≤ n' ∧ (n = n' → v = u)
  | .win b base n, v => ∀ u, ρ b = some u → ∃ r c, u = .pointer (some ⟨r, 0, none⟩) ∧ v = .slice (some ⟨r, base, none⟩) n c ∧ n ≤ c ∧ c ≤ maxLen
  | .ept b n off, v => ∀ u, ρ b = some u → ∃ a n' c, u = .slice a n' c ∧ n ≤ n' ∧ (n = n' → ∃ r, a = some ⟨r, 0, none⟩ ∧ v = .pointer (some ⟨r, off, none⟩))
  | .tup l, v => ∃ vs, v = .tuple vs.toArray ∧ RAs D w l vs
  | .dead, _ => True
def RB (base : Nat) (D : Nat → Prop) (ρ : Nat → Option Value) (w : World) (b : Nat) : Option Bk → Prop
  | none => ρ b = none
  | some (.var l) => ∃ r cs t, ρ b = some (.pointer (some ⟨r, 0, none⟩)) ∧ True ∧ w.heap[r]? = some (.cells (List.toArray cs) t (0, 0)) ∧ RL D w l cs
  | some (.sl e sz n l) => ∃ u cs, ρ b = some u ∧ w.ownsRow base e sz u n cs ∧ RL D w l cs
  | some (.obj p) => ∃ r cs t, ρ b = some (.pointer (some ⟨r, 0, none⟩)) ∧ True ∧ w.heap[r]? = some (.cells (List.toArray cs) t (0, 0)) ∧ p cs

theorem RT.up {D D' : Nat → Prop} {ρ ρ' : Nat → Option Value} {w w' : World} (k : Keeps D w D' w') {t : T} {v : Value} (hr : ∀ b ∈ t.refs, ρ' b = ρ b) (h : RT D ρ w t v) : RT D' ρ' w' t v := by
  cases t with
  | d a => exact RA.up k h
  | tup l => obtain ⟨vs, rfl, h⟩ := h; exact ⟨vs, rfl, h.up k⟩
  | dead => trivial
  | ptr b base => intro u hu; rw [hr b (by simp [T.refs])] at hu; exact h u hu
  | pti b base rel => intro u hu; rw [hr b (by simp [T.refs])] at hu; exact h u hu
  | own b n => intro u hu; rw [hr b (by simp [T.refs])] at hu; exact h u hu
  | win b base n => intro u hu; rw [hr b (by simp [T.refs])] at hu; exact h u hu
  | ept b n off => intro u hu; rw [hr b (by simp [T.refs])] at hu; exact h u hu

structure St where
  t : List T
  h : List (Option Bk)
def St.bk (s : St) (b : Nat) : Option Bk := s.h.getD b none
def St.sl (s : St) (i : Nat) : T := s.t.getD i .dead

/-- what a call begins with: a world; blocks that are lent to it; what package variables hold -/
structure W0 (G : Nat → Option (List Seg)) where
  w : World
  X : Nat → Prop
  pin : Option Nat := none
/-- below base the world is as it was, but for what is lent -/
structure BelX (B : Nat) (X : Nat → Prop) (w w' : World) : Prop where
  os : w'.os = w.os
  tape : w'.tape = w.tape
  output : w'.output = w.output
  size : w.heap.size ≤ w'.heap.size
  block : ∀ k, k < B → ¬ X k → w'.heap[k]? = w.heap[k]?
theorem BelX.refl (B : Nat) (X : Nat → Prop) (w : World) : BelX B X w w := ⟨rfl, rfl, rfl, Nat.le_refl _, fun _ _ _ => rfl⟩
theorem BelX.grown {B : Nat} {X : Nat → Prop} {a w w' : World} {row : Option Nat} (h : BelX B X a w) (hg : w.grownBy w' row) (hB : B ≤ w.heap.size) (hr : ∀ k, row = some k → B ≤ k ∨ X k) : BelX B X a w' :=
  ⟨hg.os.trans h.os, hg.tape.trans h.tape, hg.output.trans h.output, Nat.le_trans h.size hg.size, fun k hk hx => (hg.block k (by omega) (fun e => by rcases hr k e.symm with h1 | h1; omega; exact hx h1)).trans (h.block k hk hx)⟩
theorem BelX.below {B : Nat} {X : Nat → Prop} {w w' : World} (h : BelX B X w w') (hX : ∀ r, ¬ X r) : Below B w w' := ⟨h.os, h.tape, h.output, h.size, fun k hk => h.block k hk (hX k)⟩
/-- what package variables hold -/
def GOK (G : Nat → Option (List Seg)) (S : Nat → Prop) (w : World) : Prop := ∀ q l, G q = some l → ∃ cs, RL S w l cs ∧ Lies S w (some ⟨q, 0, none⟩) cs
theorem GOK.up {G : Nat → Option (List Seg)} {S S' : Nat → Prop} {w w' : World} (k : Keeps S w S' w') (h : GOK G S w) : GOK G S' w' := fun q l e => by
  obtain ⟨cs, h1, h2⟩ := h q l e
  exact ⟨cs, h1.up k, h2.up k⟩
/-- what a state without memory is in a world: ρ tells where each block lies -/
structure Good {G : Nat → Option (List Seg)} (S : Nat → Prop) (base : Nat) (w0 : W0 G) (s : St) (ρ : Nat → Option Value) (a : Act) (w : World) : Prop where
  len : s.t.length = a.tmps.size
  t : ∀ i, i < a.tmps.size → RT (Dt S base ρ) ρ w (s.sl i) (a.tmps.getD i undef)
  b : ∀ i, RB base (Dt S base ρ) ρ w i (s.bk i)
  dang : ∀ i, ∀ b ∈ (s.sl i).refs, s.bk b ≠ none
  inj : ∀ b b' u u' r, ρ b = some u → ρ b' = some u' → realOf u = some r → realOf u' = some r → b = b'
  low : ∀ b u r, ρ b = some u → realOf u = some r → (base ≤ r ∨ w0.X r) ∧ r < w.heap.size
  bel : BelX base w0.X w0.w w
  glob : GOK G (Dt S base ρ) w
  pin : ∀ q, w0.pin = some q → ρ 0 = some (.pointer (some ⟨q, 0, none⟩))
  size : base ≤ w.heap.size
  defs : a.defers = []

theorem getD_set_list {α : Type} (l : List α) (i : Nat) (x d : α) (j : Nat) : (l.set i x).getD j d = if i = j ∧ i < l.length then x else l.getD j d := by
  simp only [List.getD_eq_getElem?_getD, List.getElem?_set]
  by_cases h : i = j
  · subst h
    by_cases h2 : i < l.length
    · simp [h2]
    · simp [h2]
  · simp [h]

/-- a slot takes a value -/
theorem Good.put {S : Nat → Prop} {base : Nat} {G : Nat → Option (List Seg)} {w0 : W0 G} {s : St} {ρ : Nat → Option Value} {a : Act} {w : World} (g : Good S base w0 s ρ a w) (d : Nat) {t : T} {v : Value}
    (h : RT (Dt S base ρ) ρ w t v) (hr : ∀ b ∈ t.refs, s.bk b ≠ none) : Good S base w0 ⟨s.t.set d t, s.h⟩ ρ (a.put (some d) v) w := by
  refine ⟨by simp [Act.put, g.len], ?_, g.b, ?_, g.inj, g.low, g.bel, g.glob, g.pin, g.size, g.defs⟩
  · intro i hi
    have hi' : i < a.tmps.size := by simpa [Act.put] using hi
    simp only [St.sl, getD_set_list]
    by_cases hd : d = i
    · subst hd
      rw [if_pos ⟨rfl, by rw [g.len]; exact hi'⟩]
      simp [Act.put, hi', h]
    · rw [if_neg (fun e => hd e.1)]
      have := g.t i hi'
      simp only [Act.put, Array.getD_eq_getD_getElem?, Array.getElem?_setIfInBounds_ne hd] at this ⊢
      exact this
  · intro i b hb
    simp only [St.sl, getD_set_list] at hb
    split at hb
    · exact hr b hb
    · exact g.dang i b hb
theorem Good.put' {S : Nat → Prop} {base : Nat} {G : Nat → Option (List Seg)} {w0 : W0 G} {s : St} {ρ : Nat → Option Value} {a : Act} {w : World} (g : Good S base w0 s ρ a w) (d : Option Nat) {t : T} {v : Value}
    (h : RT (Dt S base ρ) ρ w t v) (hr : ∀ b ∈ t.refs, s.bk b ≠ none) : Good S base w0 ⟨(match d with | some d => s.t.set d t | none => s.t), s.h⟩ ρ (a.put d v) w := by
  cases d with
  | none => exact g
  | some d => exact g.put d h hr

def upd {α : Type} (ρ : Nat → α) (b : Nat) (x : α) : Nat → α := fun i => if i = b then x else ρ i

/-- the world changes at one block of one's own, or a block is new -/
theorem Good.change {S : Nat → Prop} {base : Nat} {G : Nat → Option (List Seg)} {w0 : W0 G} {s : St} {ρ : Nat → Option Value} {a : Act} {w w' : World} (g : Good S base w0 s ρ a w) (b0 : Nat) (hb0 : b0 < s.h.length) (u' : Value) (x : Bk) (row : Option Nat)
    (hw : w.grownBy w' row) (hrow : ∀ r, row = some r → ∃ u, ρ b0 = some u ∧ realOf u = some r)
    (hnew : ∀ r, realOf u' = some r → (w.heap.size ≤ r ∨ ∃ u, ρ b0 = some u ∧ realOf u = some r) ∧ r < w'.heap.size)
    (hx : Keeps (Dt S base ρ) w (Dt S base (upd ρ b0 (some u'))) w' → RB base (Dt S base (upd ρ b0 (some u'))) (upd ρ b0 (some u')) w' b0 (some x))
    (hs : ∀ i, i < a.tmps.size → b0 ∈ (s.sl i).refs → RT (Dt S base (upd ρ b0 (some u'))) (upd ρ b0 (some u')) w' (s.sl i) (a.tmps.getD i undef))
    (hp : ∀ q, ρ b0 = some (.pointer (some ⟨q, 0, none⟩)) → u' = .pointer (some ⟨q, 0, none⟩)) :
    Good S base w0 ⟨s.t, s.h.set b0 (some x)⟩ (upd ρ b0 (some u')) a w' := by
  have hu : ∀ b, b ≠ b0 → upd ρ b0 (some u') b = ρ b := fun b hb => by simp [upd, hb]
  have hu0 : upd ρ b0 (some u') b0 = some u' := by simp [upd]
  have rowlow : ∀ r, row = some r → base ≤ r ∨ w0.X r := fun r hr => by obtain ⟨u, h1, h2⟩ := hrow r hr; exact (g.low b0 u r h1 h2).1
  have K : Keeps (Dt S base ρ) w (Dt S base (upd ρ b0 (some u'))) w' := by
    refine ⟨hw.size, fun r hr hd => ⟨⟨hd.1, fun b u hb hre => ?_⟩, fun o => ?_⟩⟩
    · by_cases hbb : b = b0
      · subst hbb
        rw [hu0] at hb; cases hb
        rcases (hnew r hre).1 with h1 | ⟨u2, h1, h2⟩
        · omega
        · exact hd.2 b u2 h1 h2
      · rw [hu b hbb] at hb; exact hd.2 b u hb hre
    · exact World.cell?_of_block (hw.block r hr (fun e => by obtain ⟨u, h1, h2⟩ := hrow r e.symm; exact hd.2 b0 u h1 h2))
  refine ⟨g.len, ?_, ?_, ?_, ?_, ?_, g.bel.grown hw g.size (fun k hk => rowlow k hk), g.glob.up K, (fun q hq => by
    have h1 := g.pin q hq
    by_cases e : b0 = 0
    · subst e; rw [hu0, hp q h1]
    · rw [hu 0 (fun e' => e e'.symm)]; exact h1), Nat.le_trans g.size hw.size, g.defs⟩
  · intro i hi
    show RT _ _ _ (s.sl i) _
    by_cases hm : b0 ∈ (s.sl i).refs
    · exact hs i hi hm
    · exact (g.t i hi).up K (fun b hb => hu b (fun e => hm (e ▸ hb)))
  · intro b
    by_cases hbb : b = b0
    · subst hbb
      have : St.bk ⟨s.t, s.h.set b (some x)⟩ b = some x := by simp [St.bk, hb0]
      rw [this]; exact hx K
    · have : St.bk ⟨s.t, s.h.set b0 (some x)⟩ b = s.bk b := by simp only [St.bk, getD_set_list]; rw [if_neg (fun e => hbb e.1.symm)]
      rw [this]
      have hB := g.b b
      have out : ∀ u r, ρ b = some u → realOf u = some r → w'.heap[r]? = w.heap[r]? := fun u r h1 h2 => by
        refine hw.block r (g.low b u r h1 h2).2 (fun e => ?_)
        obtain ⟨u2, h3, h4⟩ := hrow r e.symm
        exact hbb (g.inj b b0 u u2 r h1 h3 h2 h4)
      cases hk : s.bk b with
      | none => rw [hk] at hB; exact (hu b hbb).trans hB
      | some y =>
        rw [hk] at hB
        cases y with
        | var l =>
          obtain ⟨r, cs, t, h1, h2, h3, h4⟩ := hB
          exact ⟨r, cs, t, (hu b hbb).trans h1, h2, (out _ r h1 rfl).trans h3, h4.up K⟩
        | obj p =>
          obtain ⟨r, cs, t, h1, h2, h3, h4⟩ := hB
          exact ⟨r, cs, t, (hu b hbb).trans h1, h2, (out _ r h1 rfl).trans h3, h4⟩
        | sl e sz n l =>
          obtain ⟨u, cs, h1, h2, h3⟩ := hB
          refine ⟨u, cs, (hu b hbb).trans h1, ?_, h3.up K⟩
          refine ⟨h2.1, ?_⟩
          rcases h2.2 with h4 | ⟨r, cap, cur, rfl, h5, h6, h7⟩
          · exact .inl h4
          · exact .inr ⟨r, cap, cur, rfl, h5, (out _ r h1 rfl).trans h6, h7⟩
  · intro i b hb
    show St.bk ⟨s.t, s.h.set b0 (some x)⟩ b ≠ none
    simp only [St.bk, getD_set_list]
    split
    · simp
    · exact g.dang i b hb
  · intro b b' u v r h1 h2 h3 h4
    have key : ∀ b u, b ≠ b0 → upd ρ b0 (some u') b = some u → realOf u = some r → realOf u' = some r → False := by
      intro b u hb h1 h3 h5
      rw [hu b hb] at h1
      rcases (hnew r h5).1 with h6 | ⟨u2, h6, h7⟩
      · have := (g.low b u r h1 h3).2; omega
      · exact hb (g.inj b b0 u u2 r h1 h6 h3 h7)
    by_cases e1 : b = b0
    · by_cases e2 : b' = b0
      · rw [e1, e2]
      · exfalso
        rw [e1, hu0] at h1; cases h1
        exact key b' v e2 h2 h4 h3
    · by_cases e2 : b' = b0
      · exfalso
        rw [e2, hu0] at h2; cases h2
        exact key b u e1 h1 h3 h4
      · rw [hu b e1] at h1; rw [hu b' e2] at h2
        exact g.inj b b' u v r h1 h2 h3 h4
  · intro b u r h1 h2
    by_cases e1 : b = b0
    · rw [e1, hu0] at h1; cases h1
      refine ⟨?_, (hnew r h2).2⟩
      rcases (hnew r h2).1 with h3 | ⟨u2, h3, h4⟩
      · exact .inl (Nat.le_trans g.size h3)
      · exact (g.low b0 u2 r h3 h4).1
    · rw [hu b e1] at h1
      have := g.low b u r h1 h2
      exact ⟨this.1, Nat.lt_of_lt_of_le this.2 hw.size⟩

/-- only new memory -/
theorem Good.grow {S : Nat → Prop} {base : Nat} {G : Nat → Option (List Seg)} {w0 : W0 G} {s : St} {ρ : Nat → Option Value} {a : Act} {w w' : World} (g : Good S base w0 s ρ a w) (hw : w.grownBy w' none) :
    Good S base w0 s ρ a w' ∧ Keeps (Dt S base ρ) w (Dt S base ρ) w' := by
  have K : Keeps (Dt S base ρ) w (Dt S base ρ) w' := ⟨hw.size, fun r hr hd => ⟨hd, fun o => World.cell?_of_block (hw.block r hr (by simp))⟩⟩
  refine ⟨⟨g.len, fun i hi => (g.t i hi).up K (fun _ _ => rfl), fun b => ?_, g.dang, g.inj, fun b u r h1 h2 => ⟨(g.low b u r h1 h2).1, Nat.lt_of_lt_of_le (g.low b u r h1 h2).2 hw.size⟩, g.bel.grown hw g.size (fun k hk => by cases hk), g.glob.up K, g.pin, Nat.le_trans g.size hw.size, g.defs⟩, K⟩
  have hB := g.b b
  have out : ∀ u r, ρ b = some u → realOf u = some r → w'.heap[r]? = w.heap[r]? := fun u r h1 h2 => hw.block r (g.low b u r h1 h2).2 (by simp)
  cases hk : s.bk b with
  | none => rw [hk] at hB; exact hB
  | some y =>
    rw [hk] at hB
    cases y with
    | var l =>
      obtain ⟨r, cs, t, h1, h2, h3, h4⟩ := hB
      exact ⟨r, cs, t, h1, h2, (out _ r h1 rfl).trans h3, h4.up K⟩
    | obj p =>
      obtain ⟨r, cs, t, h1, h2, h3, h4⟩ := hB
      exact ⟨r, cs, t, h1, h2, (out _ r h1 rfl).trans h3, h4⟩
    | sl e sz n l =>
      obtain ⟨u, cs, h1, h2, h3⟩ := hB
      refine ⟨u, cs, h1, ⟨h2.1, ?_⟩, h3.up K⟩
      rcases h2.2 with h4 | ⟨r, cap, cur, rfl, h5, h6, h7⟩
      · exact .inl h4
      · exact .inr ⟨r, cap, cur, rfl, h5, (out _ r h1 rfl).trans h6, h7⟩
end Go.Proofs.YtmddonmjigkjoaaDoor
