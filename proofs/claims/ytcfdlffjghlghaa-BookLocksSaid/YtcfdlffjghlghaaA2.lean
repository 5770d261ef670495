/-
  Data told without memory: cells overwritten; slots and blocks of one's own; what they are in a world. No program is named here.
-/
import Derived.Test.YtcfdlffjghlghaaA1
import Derived.Test.YtcfdlffjghlghaaMem2
namespace Go.Proofs.Ytcfdlffjghlghaa
set_option maxRecDepth 100000
open Go.RowKit
set_option linter.unusedVariables false
set_option linter.unusedSimpArgs false

section
variable {S S' : Nat → Prop} {w w' : World}

/-- a segment's cells from off on overwritten by those of another one of its kind -/
def Seg.over (s : Seg) (off : Nat) (x : Seg) : Option Seg :=
  match s, x with
  | .ints k n zs, .ints k' m ys => if k = k' then some (.ints k n (zs.take off ++ (ys ++ zs.drop (off + m)))) else none
  | .bytes n bs, .bytes m ys => some (.bytes n (bs.take off ++ (ys ++ bs.drop (off + m))))
  | .bools n bs, .bools m ys => some (.bools n (bs.take off ++ (ys ++ bs.drop (off + m))))
  | .gen n l, .gen m ys => some (.gen n (l.take off ++ (ys ++ l.drop (off + m))))
  | _, _ => none
/-- one cell of a segment overwritten -/
def Seg.setK (s : Seg) (i : Nat) (a : A) (K : Seg → Prop) : Prop :=
  match s with
  | .ints k n zs => (match a with | .v (.int k' z) => k' = k ∧ K (.ints k n (zs.set i z)) | _ => False)
  | .bytes n bs => (match a with | .v (.int k' z) => k' = .u8 ∧ 0 ≤ z ∧ z < 256 ∧ K (.bytes n (bs.set i (UInt8.ofNat z.toNat))) | _ => False)
  | .bools n bs => (match a with | .v (.bool b) => K (.bools n (bs.set i b)) | _ => False)
  | .gen n l => (match a with | .v x => x.oneCell' = true ∧ K (.gen n (l.set i (.v x))) | .row m r => K (.gen n (l.set i (.row m r))) | .ref r o => K (.gen n (l.set i (.ref r o))) | .sref r o => K (.gen n (l.set i (.sref r o))) | .recs m z f => K (.gen n (l.set i (.recs m z f))) | .agg _ => False)

theorem RG.append : ∀ {l m : List A} {cs ds : List Value}, RG S w l cs → RG S w m ds → RG S w (l ++ m) (cs ++ ds)
  | _, _, _, _, .nil, k => k
  | _, _, _, _, .cons h h1 r, k => .cons h h1 (r.append k)
theorem RG.drop : ∀ {l : List A} {cs : List Value}, RG S w l cs → ∀ n, RG S w (l.drop n) (cs.drop n)
  | _, _, .nil, n => by simp; exact .nil
  | _, _, .cons h h1 r, 0 => .cons h h1 r
  | _, _, .cons h h1 r, n + 1 => by simpa using r.drop n
theorem RG.take : ∀ {l : List A} {cs : List Value}, RG S w l cs → ∀ n, RG S w (l.take n) (cs.take n)
  | _, _, .nil, n => by simp; exact .nil
  | _, _, .cons h h1 r, 0 => by simp; exact .nil
  | _, _, .cons h h1 r, n + 1 => by simpa using .cons h h1 (r.take n)
theorem RG.set : ∀ {l : List A} {cs : List Value}, RG S w l cs → ∀ (i : Nat) {a : A} {v : Value}, RA S w a v → v.oneCell' = true → RG S w (l.set i a) (cs.set i v)
  | _, _, .nil, i, _, _, _, _ => by simp; exact .nil
  | _, _, .cons h h1 r, 0, _, _, k, k1 => by simpa using .cons k k1 r
  | _, _, .cons h h1 r, i + 1, _, _, k, k1 => by simpa using .cons h h1 (r.set i k k1)

theorem RL.over {s x s' : Seg} {cs vs : List Value} (h : RL S w [s] cs) (kx : RL S w [x] vs) (off : Nat) (e : s.over off x = some s') (hn : off + x.n ≤ s.n) :
    RL S w [s'] (cs.take off ++ (vs ++ cs.drop (off + vs.length))) ∧ s'.n = s.n := by
  cases s <;> cases x <;> simp only [Seg.over, reduceCtorEq] at e
  case ints.ints k n zs k' m ys =>
    by_cases hk : k = k'
    · rw [if_pos hk] at e; cases e; subst hk
      obtain ⟨h1, rfl⟩ := h.toInts
      obtain ⟨h2, rfl⟩ := kx.toInts
      simp only [Seg.n] at hn
      exact ⟨.ofInts (by simp; omega) (by simp [h2, List.map_take, List.map_drop]), rfl⟩
    · rw [if_neg hk] at e; cases e
  case bytes.bytes n bs m ys =>
    cases e
    obtain ⟨h1, rfl⟩ := h.toBytes
    obtain ⟨h2, rfl⟩ := kx.toBytes
    simp only [Seg.n] at hn
    exact ⟨.ofBytes (by simp; omega) (by simp [HL, h2, List.map_take, List.map_drop]), rfl⟩
  case bools.bools n bs m ys =>
    cases e
    obtain ⟨h1, rfl⟩ := h.toBools
    obtain ⟨h2, rfl⟩ := kx.toBools
    simp only [Seg.n] at hn
    exact ⟨.ofBools (by simp; omega) (by simp [h2, List.map_take, List.map_drop]), rfl⟩
  case gen.gen n l m ys =>
    cases e
    obtain ⟨h1, g⟩ := h.toGen
    obtain ⟨h2, g2⟩ := kx.toGen
    simp only [Seg.n] at hn
    refine ⟨.ofGen (by simp; omega) ?_, rfl⟩
    have := (g.take off).append (g2.append (g.drop (off + m)))
    rw [show vs.length = m by rw [g2.len, h2]]
    exact this
theorem Bt_ofNatA {z : Int} (h0 : 0 ≤ z) (h1 : z < 256) : Bt (UInt8.ofNat z.toNat) = z := by
  unfold Bt
  rw [UInt8.toNat_ofNat']
  omega
theorem RL.set {s : Seg} {i : Nat} {a : A} {K : Seg → Prop} (e : s.setK i a K) {cs : List Value} {v : Value} (h : RL S w [s] cs) (hv : RA S w a v) : ∃ s', K s' ∧ RL S w [s'] (cs.set i v) ∧ s'.n = s.n ∧ v.oneCell' = true := by
  cases s with
  | ints k n zs =>
    simp only [Seg.setK] at e
    split at e
    · obtain ⟨rfl, hK⟩ := e
      cases hv
      obtain ⟨h1, rfl⟩ := h.toInts
      exact ⟨_, hK, .ofInts (by simp [h1]) (by simp [List.map_set]), rfl, rfl⟩
    · exact e.elim
  | bytes n bs =>
    simp only [Seg.setK] at e
    split at e
    · obtain ⟨rfl, h0, h2, hK⟩ := e
      cases hv
      obtain ⟨h1, rfl⟩ := h.toBytes
      exact ⟨_, hK, .ofBytes (by simp [h1]) (by simp [HL, List.map_set, Bt_ofNatA h0 h2]), rfl, rfl⟩
    · exact e.elim
  | bools n bs =>
    simp only [Seg.setK] at e
    split at e
    · cases hv
      obtain ⟨h1, rfl⟩ := h.toBools
      exact ⟨_, e, .ofBools (by simp [h1]) (by simp [List.map_set]), rfl, rfl⟩
    · exact e.elim
  | gen n l =>
    obtain ⟨h1, g⟩ := h.toGen
    simp only [Seg.setK] at e
    split at e
    · cases hv
      exact ⟨_, e.2, .ofGen (by simp [h1]) (g.set i (.v _) e.1), rfl, e.1⟩
    · cases hv with | row a b c d f => exact ⟨_, e, .ofGen (by simp [h1]) (g.set i (.row a b c d f) rfl), rfl, rfl⟩
    · cases hv with | ref a b => exact ⟨_, e, .ofGen (by simp [h1]) (g.set i (.ref a b) rfl), rfl, rfl⟩
    · cases hv with | sref a b => exact ⟨_, e, .ofGen (by simp [h1]) (g.set i (.sref a b) rfl), rfl, rfl⟩
    · cases hv with | recs a b c d f => exact ⟨_, e, .ofGen (by simp [h1]) (g.set i (.recs a b c d f) rfl), rfl, rfl⟩
    · exact e.elim

/-- segments laid over others from cell base on -/
def put : List Seg → Nat → List Seg → Option (List Seg)
  | l, _, [] => some l
  | [], _, _ :: _ => none
  | s :: l, base, x :: new =>
    if s.n ≤ base then (put l (base - s.n) (x :: new)).map (s :: ·)
    else if base = 0 ∧ x.n = s.n then (put l 0 new).map (x :: ·)
    else match new with
      | [] => if base + x.n ≤ s.n then (s.over base x).map (· :: l) else none
      | _ :: _ => none
theorem RL.put : ∀ {l : List Seg} {cs : List Value} {base : Nat} {new : List Seg} {vs : List Value} {l' : List Seg}, RL S w l cs → RL S w new vs → put l base new = some l' →
    RL S w l' (cs.take base ++ (vs ++ cs.drop (base + vs.length))) ∧ (base + vs.length ≤ cs.length ∨ vs = [])
  | l, cs, base, [], vs, l', h, k, e => by
    cases k.nil_inv
    simp only [Go.Proofs.Ytcfdlffjghlghaa.put] at e; cases e
    exact ⟨by simpa using h, .inr rfl⟩
  | [], cs, base, x :: new, vs, l', h, k, e => by simp [Go.Proofs.Ytcfdlffjghlghaa.put] at e
  | s :: l, cs, base, x :: new, vs, l', h, k, e => by
    unfold Go.Proofs.Ytcfdlffjghlghaa.put at e
    obtain ⟨c, d, rfl, h1, h2, h3⟩ := h.head
    by_cases hs : s.n ≤ base
    · rw [if_pos hs] at e
      cases hq : Go.Proofs.Ytcfdlffjghlghaa.put l (base - s.n) (x :: new) with
      | none => rw [hq] at e; cases e
      | some m =>
        rw [hq] at e; cases e
        obtain ⟨k1, k2⟩ := h2.put k hq
        refine ⟨?_, by rcases k2 with k2 | k2; left; simp; omega; exact .inr k2⟩
        have := h1.append k1
        rw [List.take_append, List.take_of_length_le (by omega), List.append_assoc, h3, List.drop_append, List.drop_of_length_le (by omega), List.nil_append, h3, show base + vs.length - s.n = base - s.n + vs.length by omega]
        simpa using this
    rw [if_neg hs] at e
    by_cases hz : base = 0 ∧ x.n = s.n
    · rw [if_pos hz] at e
      obtain ⟨rfl, hx⟩ := hz
      obtain ⟨c2, d2, rfl, k1, k2, k3⟩ := k.head
      cases hq : Go.Proofs.Ytcfdlffjghlghaa.put l 0 new with
      | none => rw [hq] at e; cases e
      | some m =>
        rw [hq] at e; cases e
        obtain ⟨k4, k5⟩ := h2.put k2 hq
        refine ⟨?_, .inl ?_⟩
        · have := k1.append k4
          simp only [List.take_zero, List.nil_append, Nat.zero_add] at this ⊢
          rw [List.length_append, List.drop_append, List.drop_of_length_le (by omega), List.nil_append, h3, show c2.length + d2.length - s.n = d2.length by omega, List.append_assoc]
          simpa using this
        · rcases k5 with k5 | k5
          · simp; omega
          · subst k5; simp; omega
    rw [if_neg hz] at e
    cases new with
    | cons y new => simp at e
    | nil =>
      simp only at e
      by_cases ho : base + x.n ≤ s.n
      · rw [if_pos ho] at e
        cases hq : s.over base x with
        | none => rw [hq] at e; cases e
        | some s' =>
          rw [hq] at e; cases e
          have hl : vs.length = x.n := by have := k.len; simpa [segN] using this
          obtain ⟨k1, k2⟩ := h1.over k base hq ho
          refine ⟨?_, .inl (by simp; omega)⟩
          have := k1.append h2
          rw [List.take_append_of_le_length (by omega), List.drop_append_of_le_length (by omega)]
          simpa using this
      · rw [if_neg ho] at e; cases e
end

/-! slots -/
/-- a part of a row of slices -/
inductive Pt where
  | dat (a : A)
  | own (b n : Nat)
  | win (b base n : Nat)
def Pt.refs : Pt → List Nat
  | .dat _ => []
  | .own b _ | .win b _ _ => [b]
inductive T where
  | d (a : A)
  | ptr (b base : Nat)
  | pti (b base rel : Nat)
  | own (b n : Nat)
  | win (b base n : Nat)
  | ept (b n off : Nat)
  | pre (b n m : Nat)
  | tup (l : List A)
  | rows (l : List Pt)
  | ob (b : Nat)
  | dead
def T.refs : T → List Nat
  | .ptr b _ | .pti b _ _ | .own b _ | .win b _ _ | .ept b _ _ | .pre b _ _ => [b]
  | .rows l => l.flatMap Pt.refs
  | .ob b => [b]
  | _ => []
/-- several blocks of one's own, of which one value tells -/
def fpv (F : List Nat) : Value := .tuple (F.map fun q => Value.pointer (some ⟨q, 0, none⟩)).toArray
def Rl : Value → Nat → Prop
  | .pointer (some a), r => a.block = r
  | .slice (some a) _ _, r => a.block = r
  | .tuple l, r => Value.pointer (some ⟨r, 0, none⟩) ∈ l.toList
  | _, _ => False
theorem rl_fpv {F : List Nat} {r : Nat} : Rl (fpv F) r ↔ r ∈ F := by simp [Rl, fpv]
theorem rl_own {v : Value} {r : Nat} (h : ∃ ad n c, v = Value.slice ad n c) : Rl v r ↔ v.ownBlock = some r := by
  obtain ⟨ad, n, c, rfl⟩ := h
  cases ad <;> simp [Rl, Value.ownBlock]
theorem fpv_head {r r' : Nat} {F F' : List Nat} (h : fpv (r :: F) = fpv (r' :: F')) : r = r' := by
  unfold fpv at h
  simp at h
  exact h.1
theorem fpv_no {F : List Nat} : (∀ a, fpv F ≠ .pointer a) ∧ ∀ a n c, fpv F ≠ .slice a n c := by
  constructor
  · intro a h; cases h
  · intro a n c h; cases h
/-- the memory at these blocks -/
def hres (w : World) (F : List Nat) : Nat → Option Obj := fun q => if q ∈ F then w.heap[q]? else none
theorem hres_eq {w w' : World} {F : List Nat} (h : ∀ q ∈ F, w'.heap[q]? = w.heap[q]?) : hres w' F = hres w F := by
  funext q; unfold hres; split
  · next hq => exact h q hq
  · rfl
/-- what is told of an object: of the memory at its blocks, and where it begins -/
abbrev OP := (Nat → Option Obj) → Nat → Prop
/-- a block of one's own: a variable; a slice that may be appended to; something of which only this is known -/
inductive Bk where
  | var (l : List Seg)
  | sl (e : TypeId) (sz n : Nat) (l : List Seg)
  | obj (p : List Value → TypeId → Prop)
  | abs (p : OP)
def nown (ρ : Nat → Option Value) (r : Nat) : Prop := ∀ b u, ρ b = some u → ¬ Rl u r
/-- where data may lie -/
def Dt (S : Nat → Prop) (base : Nat) (ρ : Nat → Option Value) (r : Nat) : Prop := (S r ∨ base ≤ r) ∧ nown ρ r

inductive RAs (S : Nat → Prop) (w : World) : List A → List Value → Prop
  | nil : RAs S w [] []
  | cons {a : A} {v : Value} {asx : List A} {vs : List Value} (h : RA S w a v) (r : RAs S w asx vs) : RAs S w (a :: asx) (v :: vs)
theorem RAs.up {S S' : Nat → Prop} {w w' : World} (k : Keeps S w S' w') : ∀ {l : List A} {vs : List Value}, RAs S w l vs → RAs S' w' l vs
  | _, _, .nil => .nil
  | _, _, .cons h r => .cons (h.up k) (r.up k)

def RP (D : Nat → Prop) (ρ : Nat → Option Value) (w : World) : Pt → Value → Prop
  | .dat a, v => RA D w a v
  | .own b n, v => ∀ u, ρ b = some u → ∃ a n' c, u = .slice a n' c ∧ n ≤ n' ∧ (n = n' → v = u)
  | .win b base n, v => ∀ u, ρ b = some u → ∃ r c, u = .pointer (some ⟨r, 0, none⟩) ∧ v = .slice (some ⟨r, base, none⟩) n c ∧ n ≤ c ∧ c ≤ maxLen
inductive RPs (D : Nat → Prop) (ρ : Nat → Option Value) (w : World) : List Pt → List Value → Prop
  | nil : RPs D ρ w [] []
  | cons {p : Pt} {v : Value} {ps : List Pt} {vs : List Value} (h : RP D ρ w p v) (r : RPs D ρ w ps vs) : RPs D ρ w (p :: ps) (v :: vs)
theorem RPs.map {D D' : Nat → Prop} {ρ ρ' : Nat → Option Value} {w w' : World} : ∀ {l : List Pt} {vs : List Value}, (∀ p ∈ l, ∀ v, RP D ρ w p v → RP D' ρ' w' p v) → RPs D ρ w l vs → RPs D' ρ' w' l vs
  | _, _, _, .nil => .nil
  | _, _, f, .cons h r => .cons (f _ (by simp) _ h) (r.map fun p hp => f p (by simp [hp]))
theorem RPs.len {D : Nat → Prop} {ρ : Nat → Option Value} {w : World} : ∀ {l : List Pt} {vs : List Value}, RPs D ρ w l vs → vs.length = l.length
  | _, _, .nil => rfl
  | _, _, .cons h r => by simp [r.len]
/-- where slices stand in a row -/
def RowsAt (D : Nat → Prop) (w : World) (vs : List Value) (v : Value) : Prop :=
  ∃ r, v = .slice (some ⟨r, 0, none⟩) vs.length vs.length ∧ vs ≠ [] ∧ vs.length ≤ maxLen ∧ D r ∧ r < w.heap.size ∧ ∀ (i : Nat) (h : i < vs.length), w.cell? ⟨r, i, none⟩ = some vs[i]
theorem RowsAt.up {D D' : Nat → Prop} {w w' : World} {vs : List Value} {v : Value} (k : Keeps D w D' w') (h : RowsAt D w vs v) : RowsAt D' w' vs v := by
  obtain ⟨r, h1, h2, h3, h4, h5, h6⟩ := h
  exact ⟨r, h1, h2, h3, (k.2 r h5 h4).1, Nat.lt_of_lt_of_le h5 k.1, fun i hi => ((k.2 r h5 h4).2 _).trans (h6 i hi)⟩
theorem RP.up {D D' : Nat → Prop} {ρ ρ' : Nat → Option Value} {w w' : World} (k : Keeps D w D' w') {p : Pt} {v : Value} (hr : ∀ b ∈ p.refs, ρ' b = ρ b) (h : RP D ρ w p v) : RP D' ρ' w' p v := by
  cases p with
  | dat a => exact RA.up k h
  | own b n => intro u hu; rw [hr b (by simp [Pt.refs])] at hu; exact h u hu
  | win b base n => intro u hu; rw [hr b (by simp [Pt.refs])] at hu; exact h u hu
def RT (D : Nat → Prop) (ρ : Nat → Option Value) (w : World) : T → Value → Prop
  | .d a, v => RA D w a v
  | .ptr b base, v => ∀ u, ρ b = some u → ∃ r, u = .pointer (some ⟨r, 0, none⟩) ∧ v = .pointer (some ⟨r, base, none⟩)
  | .pti b base rel, v => ∀ u, ρ b = some u → ∃ r, u = .pointer (some ⟨r, 0, none⟩) ∧ v = .pointer (some ⟨r, base + rel, none⟩)
  | .own b n, v => ∀ u, ρ b = some u → ∃ a n' c, u = .slice a n' c ∧ n ≤ n' ∧ (n = n' → v = u)
  | .win b base n, v => ∀ u, ρ b = some u → ∃ r c, u = .pointer (some ⟨r, 0, none⟩) ∧ v = .slice (some ⟨r, base, none⟩) n c ∧ n ≤ c ∧ c ≤ maxLen
  | .ept b n off, v => ∀ u, ρ b = some u → ∃ a n' c, u = .slice a n' c ∧ n ≤ n' ∧ (n = n' → ∃ r, a = some ⟨r, 0, none⟩ ∧ v = .pointer (some ⟨r, off, none⟩))
  | .pre b n m, v => ∀ u, ρ b = some u → ∃ a n' c, u = .slice a n' c ∧ m ≤ n' ∧ (m = n' → v = .slice (if c = 0 then a else a.map (·.add 0)) n c)
  | .tup l, v => ∃ vs, v = .tuple vs.toArray ∧ RAs D w l vs
  | .rows l, v => ∃ vs, RPs D ρ w l vs ∧ RowsAt D w vs v
  | .ob b, v => ∀ u, ρ b = some u → ∃ r F, u = fpv (r :: F) ∧ v = .pointer (some ⟨r, 0, none⟩)
  | .dead, _ => True
def RB (base : Nat) (D : Nat → Prop) (ρ : Nat → Option Value) (w : World) (b : Nat) : Option Bk → Prop
  | none => ρ b = none
  | some (.var l) => ∃ r cs t, ρ b = some (.pointer (some ⟨r, 0, none⟩)) ∧ True ∧ w.heap[r]? = some (.cells (List.toArray cs) t (0, 0)) ∧ RL D w l cs
  | some (.sl e sz n l) => ∃ u cs, ρ b = some u ∧ w.ownsRow base e sz u n cs ∧ RL D w l cs
  | some (.obj p) => ∃ r cs t, ρ b = some (.pointer (some ⟨r, 0, none⟩)) ∧ True ∧ w.heap[r]? = some (.cells (List.toArray cs) t (0, 0)) ∧ p cs t
  | some (.abs p) => ∃ r F, ρ b = some (fpv (r :: F)) ∧ (∀ q ∈ r :: F, q < w.heap.size) ∧ p (hres w (r :: F)) r

theorem RT.up {D D' : Nat → Prop} {ρ ρ' : Nat → Option Value} {w w' : World} (k : Keeps D w D' w') {t : T} {v : Value} (hr : ∀ b ∈ t.refs, ρ' b = ρ b) (h : RT D ρ w t v) : RT D' ρ' w' t v := by
  cases t with
  | d a => exact RA.up k h
  | tup l => obtain ⟨vs, rfl, h⟩ := h; exact ⟨vs, rfl, h.up k⟩
  | rows l => obtain ⟨vs, h1, h2⟩ := h; exact ⟨vs, h1.map fun p hp v hv => hv.up k fun b hb => hr b (by simp only [T.refs, List.mem_flatMap]; exact ⟨p, hp, hb⟩), h2.up k⟩
  | dead => trivial
  | ptr b base => intro u hu; rw [hr b (by simp [T.refs])] at hu; exact h u hu
  | pti b base rel => intro u hu; rw [hr b (by simp [T.refs])] at hu; exact h u hu
  | own b n => intro u hu; rw [hr b (by simp [T.refs])] at hu; exact h u hu
  | win b base n => intro u hu; rw [hr b (by simp [T.refs])] at hu; exact h u hu
  | ept b n off => intro u hu; rw [hr b (by simp [T.refs])] at hu; exact h u hu
  | pre b n m => intro u hu; rw [hr b (by simp [T.refs])] at hu; exact h u hu
  | ob b => intro u hu; rw [hr b (by simp [T.refs])] at hu; exact h u hu

structure St where
  t : List T
  h : List (Option Bk)
def St.bk (s : St) (b : Nat) : Option Bk := s.h.getD b none
def St.sl (s : St) (i : Nat) : T := s.t.getD i .dead

/-- what a call begins with: a world; blocks that are lent to it; what package variables hold -/
structure W0 (G : Nat → Option (List Seg)) where
  w : World
  X : Nat → Prop
  pin : Option Nat := none
/-- below base the world is asx it was, but for what is lent -/
structure BelX (B : Nat) (X : Nat → Prop) (w w' : World) : Prop where
  os : w'.os = w.os
  tape : w'.tape = w.tape
  output : w'.output = w.output
  size : w.heap.size ≤ w'.heap.size
  block : ∀ k, k < B → ¬ X k → w'.heap[k]? = w.heap[k]?
theorem BelX.refl (B : Nat) (X : Nat → Prop) (w : World) : BelX B X w w := ⟨rfl, rfl, rfl, Nat.le_refl _, fun _ _ _ => rfl⟩
theorem BelX.grown {B : Nat} {X : Nat → Prop} {a w w' : World} {row : Option Nat} (h : BelX B X a w) (hg : w.grownBy w' row) (hB : B ≤ w.heap.size) (hr : ∀ k, row = some k → B ≤ k ∨ X k) : BelX B X a w' :=
  ⟨hg.os.trans h.os, hg.tape.trans h.tape, hg.output.trans h.output, Nat.le_trans h.size hg.size, fun k hk hx => (hg.block k (by omega) (fun e => by rcases hr k e.symm with h1 | h1; omega; exact hx h1)).trans (h.block k hk hx)⟩
/-- only what X tells of was written, and there is new memory -/
structure GrownX (X : Nat → Prop) (w w' : World) : Prop where
  os : w'.os = w.os
  tape : w'.tape = w.tape
  output : w'.output = w.output
  size : w.heap.size ≤ w'.heap.size
  block : ∀ k, k < w.heap.size → ¬ X k → w'.heap[k]? = w.heap[k]?
theorem GrownX.of {w w' : World} {row : Option Nat} (h : w.grownBy w' row) : GrownX (fun k => row = some k) w w' := ⟨h.os, h.tape, h.output, h.size, fun k hk hn => h.block k hk (fun e => hn e.symm)⟩
theorem BelX.grownX {B : Nat} {X Y : Nat → Prop} {a w w' : World} (h : BelX B X a w) (hg : GrownX Y w w') (hB : B ≤ w.heap.size) (hr : ∀ k, Y k → B ≤ k ∨ X k) : BelX B X a w' :=
  ⟨hg.os.trans h.os, hg.tape.trans h.tape, hg.output.trans h.output, Nat.le_trans h.size hg.size, fun k hk hx => (hg.block k (by omega) (fun e => by rcases hr k e with h1 | h1; omega; exact hx h1)).trans (h.block k hk hx)⟩
theorem BelX.below {B : Nat} {X : Nat → Prop} {w w' : World} (h : BelX B X w w') (hX : ∀ r, ¬ X r) : Below B w w' := ⟨h.os, h.tape, h.output, h.size, fun k hk => h.block k hk (hX k)⟩
/-- what package variables hold -/
def GOK (G : Nat → Option (List Seg)) (S : Nat → Prop) (w : World) : Prop := ∀ q l, G q = some l → ∃ cs, RL S w l cs ∧ Lies S w (some ⟨q, 0, none⟩) cs
theorem GOK.up {G : Nat → Option (List Seg)} {S S' : Nat → Prop} {w w' : World} (k : Keeps S w S' w') (h : GOK G S w) : GOK G S' w' := fun q l e => by
  obtain ⟨cs, h1, h2⟩ := h q l e
  exact ⟨cs, h1.up k, h2.up k⟩
/-- what a state without memory is in a world: ρ tells where each block lies -/
structure Good {G : Nat → Option (List Seg)} (S : Nat → Prop) (base : Nat) (w0 : W0 G) (s : St) (ρ : Nat → Option Value) (a : Act) (w : World) : Prop where
  len : s.t.length = a.tmps.size
  t : ∀ i, i < a.tmps.size → RT (Dt S base ρ) ρ w (s.sl i) (a.tmps.getD i undef)
  b : ∀ i, RB base (Dt S base ρ) ρ w i (s.bk i)
  dang : ∀ i, ∀ b ∈ (s.sl i).refs, s.bk b ≠ none
  inj : ∀ b b' u u' r, ρ b = some u → ρ b' = some u' → Rl u r → Rl u' r → b = b'
  low : ∀ b u r, ρ b = some u → Rl u r → (base ≤ r ∨ w0.X r) ∧ r < w.heap.size
  bel : BelX base w0.X w0.w w
  glob : GOK G (Dt S base ρ) w
  pin : ∀ q, w0.pin = some q → ρ 0 = some (.pointer (some ⟨q, 0, none⟩))
  size : base ≤ w.heap.size
  defs : a.defers = []

theorem getD_set_list {α : Type} (l : List α) (i : Nat) (x d : α) (j : Nat) : (l.set i x).getD j d = if i = j ∧ i < l.length then x else l.getD j d := by
  simp only [List.getD_eq_getElem?_getD, List.getElem?_set]
  by_cases h : i = j
  · subst h
    by_cases h2 : i < l.length
    · simp [h2]
    · simp [h2]
  · simp [h]

/-- a slot takes a value -/
theorem Good.put {S : Nat → Prop} {base : Nat} {G : Nat → Option (List Seg)} {w0 : W0 G} {s : St} {ρ : Nat → Option Value} {a : Act} {w : World} (g : Good S base w0 s ρ a w) (d : Nat) {t : T} {v : Value}
    (h : RT (Dt S base ρ) ρ w t v) (hr : ∀ b ∈ t.refs, s.bk b ≠ none) : Good S base w0 ⟨s.t.set d t, s.h⟩ ρ (a.put (some d) v) w := by
  refine ⟨by simp [Act.put, g.len], ?_, g.b, ?_, g.inj, g.low, g.bel, g.glob, g.pin, g.size, g.defs⟩
  · intro i hi
    have hi' : i < a.tmps.size := by simpa [Act.put] using hi
    simp only [St.sl, getD_set_list]
    by_cases hd : d = i
    · subst hd
      rw [if_pos ⟨rfl, by rw [g.len]; exact hi'⟩]
      simp [Act.put, hi', h]
    · rw [if_neg (fun e => hd e.1)]
      have := g.t i hi'
      simp only [Act.put, Array.getD_eq_getD_getElem?, Array.getElem?_setIfInBounds_ne hd] at this ⊢
      exact this
  · intro i b hb
    simp only [St.sl, getD_set_list] at hb
    split at hb
    · exact hr b hb
    · exact g.dang i b hb
theorem Good.put' {S : Nat → Prop} {base : Nat} {G : Nat → Option (List Seg)} {w0 : W0 G} {s : St} {ρ : Nat → Option Value} {a : Act} {w : World} (g : Good S base w0 s ρ a w) (d : Option Nat) {t : T} {v : Value}
    (h : RT (Dt S base ρ) ρ w t v) (hr : ∀ b ∈ t.refs, s.bk b ≠ none) : Good S base w0 ⟨(match d with | some d => s.t.set d t | none => s.t), s.h⟩ ρ (a.put d v) w := by
  cases d with
  | none => exact g
  | some d => exact g.put d h hr

def upd {α : Type} (ρ : Nat → α) (b : Nat) (x : α) : Nat → α := fun i => if i = b then x else ρ i

/-- the world changes at some blocks of one's own, or blocks are new -/
theorem Good.step {S : Nat → Prop} {base : Nat} {G : Nat → Option (List Seg)} {w0 : W0 G} {s : St} {ρ : Nat → Option Value} {a : Act} {w w' : World} (g : Good S base w0 s ρ a w) (ρ' : Nat → Option Value) (h' : List (Option Bk)) (X B : Nat → Prop)
    (hw : GrownX X w w') (hB : ∀ b, ¬ B b → ρ' b = ρ b ∧ St.bk ⟨s.t, h'⟩ b = s.bk b) (hrow : ∀ r, X r → ∃ b u, B b ∧ ρ b = some u ∧ Rl u r)
    (hnew : ∀ b u r, B b → ρ' b = some u → Rl u r → (w.heap.size ≤ r ∨ ∃ u0, ρ b = some u0 ∧ Rl u0 r) ∧ r < w'.heap.size)
    (hinj : ∀ b b' u u' r, B b → B b' → ρ' b = some u → ρ' b' = some u' → Rl u r → Rl u' r → b = b')
    (hx : Keeps (Dt S base ρ) w (Dt S base ρ') w' → ∀ b, B b → RB base (Dt S base ρ') ρ' w' b (St.bk ⟨s.t, h'⟩ b))
    (hs : Keeps (Dt S base ρ) w (Dt S base ρ') w' → ∀ i, i < a.tmps.size → (∃ b, b ∈ (s.sl i).refs ∧ B b) → RT (Dt S base ρ') ρ' w' (s.sl i) (a.tmps.getD i undef))
    (hd : ∀ b, B b → St.bk ⟨s.t, h'⟩ b ≠ none) (hp : ∀ q, ρ 0 = some (.pointer (some ⟨q, 0, none⟩)) → ρ' 0 = some (.pointer (some ⟨q, 0, none⟩))) :
    Good S base w0 ⟨s.t, h'⟩ ρ' a w' := by
  have rowlow : ∀ r, X r → base ≤ r ∨ w0.X r := fun r hr => by obtain ⟨b, u, _, h1, h2⟩ := hrow r hr; exact (g.low b u r h1 h2).1
  have K : Keeps (Dt S base ρ) w (Dt S base ρ') w' := by
    refine ⟨hw.size, fun r hr hd => ⟨⟨hd.1, fun b u hb hre => ?_⟩, fun o => ?_⟩⟩
    · by_cases hbb : B b
      · rcases (hnew b u r hbb hb hre).1 with h1 | ⟨u2, h1, h2⟩
        · omega
        · exact hd.2 b u2 h1 h2
      · rw [(hB b hbb).1] at hb; exact hd.2 b u hb hre
    · exact World.cell?_of_block (hw.block r hr (fun e => by obtain ⟨b, u, _, h1, h2⟩ := hrow r e; exact hd.2 b u h1 h2))
  refine ⟨g.len, ?_, ?_, ?_, ?_, ?_, g.bel.grownX hw g.size (fun k hk => rowlow k hk), g.glob.up K, (fun q hq => hp q (g.pin q hq)), Nat.le_trans g.size hw.size, g.defs⟩
  · intro i hi
    show RT _ _ _ (s.sl i) _
    by_cases hm : ∃ b, b ∈ (s.sl i).refs ∧ B b
    · exact hs K i hi hm
    · exact (g.t i hi).up K (fun b hb => (hB b (fun e => hm ⟨b, hb, e⟩)).1)
  · intro b
    by_cases hbb : B b
    · exact hx K b hbb
    · obtain ⟨hu, hk'⟩ := hB b hbb
      rw [hk']
      have hBb := g.b b
      have out : ∀ u r, ρ b = some u → Rl u r → w'.heap[r]? = w.heap[r]? := fun u r h1 h2 => by
        refine hw.block r (g.low b u r h1 h2).2 (fun e => ?_)
        obtain ⟨b2, u2, h5, h3, h4⟩ := hrow r e
        exact hbb (by rw [g.inj b b2 u u2 r h1 h3 h2 h4]; exact h5)
      cases hk : s.bk b with
      | none => rw [hk] at hBb; exact hu.trans hBb
      | some y =>
        rw [hk] at hBb
        cases y with
        | var l =>
          obtain ⟨r, cs, t, h1, h2, h3, h4⟩ := hBb
          exact ⟨r, cs, t, hu.trans h1, h2, (out _ r h1 rfl).trans h3, h4.up K⟩
        | obj p =>
          obtain ⟨r, cs, t, h1, h2, h3, h4⟩ := hBb
          exact ⟨r, cs, t, hu.trans h1, h2, (out _ r h1 rfl).trans h3, h4⟩
        | abs p =>
          obtain ⟨r, F, h1, h2, h3⟩ := hBb
          exact ⟨r, F, hu.trans h1, fun q hq => Nat.lt_of_lt_of_le (h2 q hq) hw.size, by rw [hres_eq fun q hq => out _ q h1 (rl_fpv.2 hq)]; exact h3⟩
        | sl e sz n l =>
          obtain ⟨u, cs, h1, h2, h3⟩ := hBb
          refine ⟨u, cs, hu.trans h1, ?_, h3.up K⟩
          refine ⟨h2.1, ?_⟩
          rcases h2.2 with h4 | ⟨r, cap, cur, rfl, h5, h6, h7⟩
          · exact .inl h4
          · exact .inr ⟨r, cap, cur, rfl, h5, (out _ r h1 rfl).trans h6, h7⟩
  · intro i b hb
    show St.bk ⟨s.t, h'⟩ b ≠ none
    by_cases hbb : B b
    · exact hd b hbb
    · rw [(hB b hbb).2]; exact g.dang i b hb
  · intro b b' u v r h1 h2 h3 h4
    have key : ∀ b u b' u', ¬ B b → B b' → ρ' b = some u → ρ' b' = some u' → Rl u r → Rl u' r → False := by
      intro b u b' u' hb hb' h1 h2 h3 h5
      rw [(hB b hb).1] at h1
      rcases (hnew b' u' r hb' h2 h5).1 with h6 | ⟨u2, h6, h7⟩
      · have := (g.low b u r h1 h3).2; omega
      · exact hb (by rw [g.inj b b' u u2 r h1 h6 h3 h7]; exact hb')
    by_cases e1 : B b
    · by_cases e2 : B b'
      · exact hinj b b' u v r e1 e2 h1 h2 h3 h4
      · exact (key b' v b u e2 e1 h2 h1 h4 h3).elim
    · by_cases e2 : B b'
      · exact (key b u b' v e1 e2 h1 h2 h3 h4).elim
      · rw [(hB b e1).1] at h1; rw [(hB b' e2).1] at h2
        exact g.inj b b' u v r h1 h2 h3 h4
  · intro b u r h1 h2
    by_cases e1 : B b
    · refine ⟨?_, (hnew b u r e1 h1 h2).2⟩
      rcases (hnew b u r e1 h1 h2).1 with h3 | ⟨u2, h3, h4⟩
      · exact .inl (Nat.le_trans g.size h3)
      · exact (g.low b u2 r h3 h4).1
    · rw [(hB b e1).1] at h1
      have := g.low b u r h1 h2
      exact ⟨this.1, Nat.lt_of_lt_of_le this.2 hw.size⟩
/-- the world changes at one block of one's own, or a block is new -/
theorem Good.change {S : Nat → Prop} {base : Nat} {G : Nat → Option (List Seg)} {w0 : W0 G} {s : St} {ρ : Nat → Option Value} {a : Act} {w w' : World} (g : Good S base w0 s ρ a w) (b0 : Nat) (hb0 : b0 < s.h.length) (u' : Value) (x : Bk) (row : Option Nat)
    (hw : w.grownBy w' row) (hrow : ∀ r, row = some r → ∃ u, ρ b0 = some u ∧ Rl u r)
    (hnew : ∀ r, Rl u' r → (w.heap.size ≤ r ∨ ∃ u, ρ b0 = some u ∧ Rl u r) ∧ r < w'.heap.size)
    (hx : Keeps (Dt S base ρ) w (Dt S base (upd ρ b0 (some u'))) w' → RB base (Dt S base (upd ρ b0 (some u'))) (upd ρ b0 (some u')) w' b0 (some x))
    (hs : Keeps (Dt S base ρ) w (Dt S base (upd ρ b0 (some u'))) w' → ∀ i, i < a.tmps.size → b0 ∈ (s.sl i).refs → RT (Dt S base (upd ρ b0 (some u'))) (upd ρ b0 (some u')) w' (s.sl i) (a.tmps.getD i undef))
    (hp : ∀ q, ρ b0 = some (.pointer (some ⟨q, 0, none⟩)) → u' = .pointer (some ⟨q, 0, none⟩)) :
    Good S base w0 ⟨s.t, s.h.set b0 (some x)⟩ (upd ρ b0 (some u')) a w' := by
  have hu : ∀ b, b ≠ b0 → upd ρ b0 (some u') b = ρ b := fun b hb => by simp [upd, hb]
  have hu0 : upd ρ b0 (some u') b0 = some u' := by simp [upd]
  have hbk0 : St.bk ⟨s.t, s.h.set b0 (some x)⟩ b0 = some x := by simp [St.bk, hb0]
  refine g.step (upd ρ b0 (some u')) (s.h.set b0 (some x)) (fun k => row = some k) (fun b => b = b0) (.of hw) (fun b hb => ⟨hu b hb, ?_⟩) (fun r hr => ?_) (fun b u r hb h1 h2 => ?_) (fun b b' _ _ _ h1 h2 _ _ _ _ => h1.trans h2.symm) (fun K b hb => ?_) (fun K i hi hm => ?_) (fun b hb => ?_) (fun q hq => ?_)
  · simp only [St.bk, getD_set_list]; rw [if_neg (fun e => hb e.1.symm)]
  · obtain ⟨u, h1, h2⟩ := hrow r hr; exact ⟨b0, u, rfl, h1, h2⟩
  · subst hb; rw [hu0] at h1; cases h1; exact hnew r h2
  · subst hb; rw [hbk0]; exact hx K
  · obtain ⟨b, h1, rfl⟩ := hm; exact hs K i hi h1
  · subst hb; rw [hbk0]; simp
  · by_cases e : b0 = 0
    · subst e; rw [hu0, hp q hq]
    · rw [hu 0 (fun e' => e e'.symm)]; exact hq

/-- only new memory -/
theorem Good.grow {S : Nat → Prop} {base : Nat} {G : Nat → Option (List Seg)} {w0 : W0 G} {s : St} {ρ : Nat → Option Value} {a : Act} {w w' : World} (g : Good S base w0 s ρ a w) (hw : w.grownBy w' none) :
    Good S base w0 s ρ a w' ∧ Keeps (Dt S base ρ) w (Dt S base ρ) w' := by
  have K : Keeps (Dt S base ρ) w (Dt S base ρ) w' := ⟨hw.size, fun r hr hd => ⟨hd, fun o => World.cell?_of_block (hw.block r hr (by simp))⟩⟩
  refine ⟨⟨g.len, fun i hi => (g.t i hi).up K (fun _ _ => rfl), fun b => ?_, g.dang, g.inj, fun b u r h1 h2 => ⟨(g.low b u r h1 h2).1, Nat.lt_of_lt_of_le (g.low b u r h1 h2).2 hw.size⟩, g.bel.grown hw g.size (fun k hk => by cases hk), g.glob.up K, g.pin, Nat.le_trans g.size hw.size, g.defs⟩, K⟩
  have hB := g.b b
  have out : ∀ u r, ρ b = some u → Rl u r → w'.heap[r]? = w.heap[r]? := fun u r h1 h2 => hw.block r (g.low b u r h1 h2).2 (by simp)
  cases hk : s.bk b with
  | none => rw [hk] at hB; exact hB
  | some y =>
    rw [hk] at hB
    cases y with
    | var l =>
      obtain ⟨r, cs, t, h1, h2, h3, h4⟩ := hB
      exact ⟨r, cs, t, h1, h2, (out _ r h1 rfl).trans h3, h4.up K⟩
    | obj p =>
      obtain ⟨r, cs, t, h1, h2, h3, h4⟩ := hB
      exact ⟨r, cs, t, h1, h2, (out _ r h1 rfl).trans h3, h4⟩
    | abs p =>
      obtain ⟨r, F, h1, h2, h3⟩ := hB
      exact ⟨r, F, h1, fun q hq => Nat.lt_of_lt_of_le (h2 q hq) hw.size, by rw [hres_eq fun q hq => out _ q h1 (rl_fpv.2 hq)]; exact h3⟩
    | sl e sz n l =>
      obtain ⟨u, cs, h1, h2, h3⟩ := hB
      refine ⟨u, cs, h1, ⟨h2.1, ?_⟩, h3.up K⟩
      rcases h2.2 with h4 | ⟨r, cap, cur, rfl, h5, h6, h7⟩
      · exact .inl h4
      · exact .inr ⟨r, cap, cur, rfl, h5, (out _ r h1 rfl).trans h6, h7⟩
end Go.Proofs.Ytcfdlffjghlghaa
