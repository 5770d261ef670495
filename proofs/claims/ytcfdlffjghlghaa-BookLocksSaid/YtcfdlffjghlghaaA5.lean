/-
  Operations of the machine without memory: what each comes to. No program is named here.
-/
import Derived.Test.YtcfdlffjghlghaaA4
import Derived.ChangeKeysEq
namespace Go.Proofs.Ytcfdlffjghlghaa
set_option maxRecDepth 100000
open Go.RowKit
set_option linter.unusedVariables false
set_option linter.unusedSimpArgs false

def kcode : IntKind → Nat | .i8 => 1 | .i16 => 2 | .i32 => 3 | .i64 => 4 | .u8 => 5 | .u16 => 6 | .u32 => 7 | .u64 => 8
/-- which cells stand where -/
def shape : List Seg → List (Nat × Nat)
  | [] => []
  | .ints k n _ :: l => (kcode k, n) :: shape l
  | .bytes n _ :: l => (5, n) :: shape l
  | .bools n _ :: l => (100, n) :: shape l
  | .gen n _ :: l => (200, n) :: shape l
def eqSegs : List Seg → List Seg → Bool
  | [], [] => true
  | .ints _ _ a :: l, .ints _ _ b :: m => decide (a = b) && eqSegs l m
  | .bytes _ a :: l, .bytes _ b :: m => decide (a = b) && eqSegs l m
  | .bools _ a :: l, .bools _ b :: m => decide (a = b) && eqSegs l m
  | _, _ => false
def sameKind : List Seg → List Seg → Bool
  | [], [] => true
  | .ints k n _ :: l, .ints k' n' _ :: m => decide (k = k') && n == n' && sameKind l m
  | .bytes n _ :: l, .bytes n' _ :: m => n == n' && sameKind l m
  | .bools n _ :: l, .bools n' _ :: m => n == n' && sameKind l m
  | _, _ => false
def cellKind : Value → Option (Option IntKind) | .int k _ => some (some k) | .bool _ => some none | _ => none
/-- values of a type are compared cell by cell -/
def EqT (P : Program) (t : TypeId) (i : TI) : Prop :=
  P.eqGuardType P.depth t = false ∧ ∀ (w : World) (xs ys : List Value) (z : List Value), zeroB i.zero z = true → xs.map cellKind = z.map cellKind → ys.map cellKind = z.map cellKind →
    ∃ b : Bool, (Op.equalIn 10000 t (.agg xs.toArray) (.agg ys.toArray)).run P w = .ok b w ∧ (b = true ↔ xs = ys)

/-- one of two -/
def condK (b : Bool) (x y : Prop) : Prop := match b with | true => x | false => y
@[congr] theorem condK_congr {b b' : Bool} {x y : Prop} (h : b = b') : condK b x y = condK b' x y := by rw [h]
theorem condK_true (x y : Prop) : condK true x y = x := rfl
theorem condK_false (x y : Prop) : condK false x y = y := rfl
/-- reckoning stops here: at an operation; a condition; a loop; an operation whose order is open -/
structure Stop (p : Prop) : Prop where
  out : p
structure StopC (p : Prop) : Prop where
  out : p
structure StopL (p : Prop) : Prop where
  out : p
structure StopD (p : Prop) : Prop where
  out : p
structure StopE (p : Prop) : Prop where
  out : p
theorem stop_eq (p : Prop) : Stop p = p := propext ⟨Stop.out, Stop.mk⟩
theorem stopC_eq (p : Prop) : StopC p = p := propext ⟨StopC.out, StopC.mk⟩
theorem stopE_eq (p : Prop) : StopE p = p := propext ⟨StopE.out, StopE.mk⟩
theorem stopD_eq (p : Prop) : StopD p = p := propext ⟨StopD.out, StopD.mk⟩
structure EnvX extends Env where
  hE : ∀ t i, Y t = some i → i.eq = true → EqT P t i
  hM : P.follows .mixedOrders = true

/-- slices in a row, handed in -/
def rowsK (s : St) : List Pt → (List A → Prop) → Prop
  | [], K => K []
  | .dat (.row n l) :: r, K => rowsK s r fun rs => K (.row n l :: rs)
  | .dat (.v (.slice none 0 0)) :: r, K => rowsK s r fun rs => K (.row 0 [] :: rs)
  | .dat _ :: _, _ => False
  | .own b n :: r, K => (match s.bk b with | some (.sl _ _ m l) => n = m ∧ rowsK s r fun rs => K (.row n l :: rs) | _ => False)
  | .win b base n :: r, K => (match s.bk b with | some (.var l) => (match cut l base n with | some m => base + n ≤ segN l ∧ rowsK s r fun rs => K (.row n m :: rs) | none => False) | _ => False)
/-- n cells from off on, where they are told -/
def subK (l : List Seg) (off n : Nat) (K : List Seg → Prop) : Prop :=
  match l with
  | [s] => off + n ≤ s.n ∧ K [s.sub off n]
  | l => (match cut l off n with | some m => off + n ≤ segN l ∧ K m | none => False)
def argK (s : St) : List T → (List A → Bool → Prop) → Prop
  | [], K => K [] false
  | t :: r, K =>
    match t with
    | .d a => argK s r fun l b => K (a :: l) b
    | .own b n => (match s.bk b with | some (.sl _ _ m l) => n = m ∧ argK s r fun l' _ => K (.row n l :: l') true | _ => False)
    | .pre b n m => (match s.bk b with | some (.sl _ sz q l) => m = q ∧ n ≤ q ∧ sz ≠ 0 ∧ subK l 0 (n * sz) fun l1 => argK s r fun l' _ => K (.row n l1 :: l') true | _ => False)
    | .win b base n => (match s.bk b with | some (.var l) => (match cut l base n with | some m => base + n ≤ segN l ∧ argK s r fun l' _ => K (.row n m :: l') true | none => False) | _ => False)
    | .rows ps => rowsK s ps fun rs => argK s r fun l' _ => K (.row ps.length [.gen ps.length rs] :: l') true
    | _ => False
def flatRes : Res → Bool
  | .d a => flatA a
  | .o _ _ _ l => l.all fun s => match s with | .gen _ _ => false | _ => true
  | .t l => l.all flatA
  | .p (.var l) => l.all fun s => match s with | .gen _ _ => false | _ => true
  | .p (.obj _) => true
  | .p _ => false
  | .ob _ => true
def resK (fr : Nat) (k : KO) : Res → Prop
  | .d a => k (.d a) none
  | .o e sz n l => k (.own fr n) (some (fr, .sl e sz n l))
  | .t l => k (.tup l) none
  | .p x => k (.ptr fr 0) (some (fr, x))
  | .ob p => k (.ob fr) (some (fr, .abs p))
def boxSegs : A → Option (List Seg)
  | .agg l => some l
  | .v (.int k z) => some [.ints k 1 [z]]
  | .v (.bool b) => some [.bools 1 [b]]
  | _ => none
def fillA (off : Nat → Option (Nat × Nat)) (s : St) : List (Nat × Operand) → List Seg → (List Seg → Prop) → Prop
  | [], l, K => K l
  | (i, x) :: r, l, K =>
    match off i, s.ev x with
    | some (o, n), .d a => n ≠ 0 ∧ wrK l o a n fun l' => fillA off s r l' K
    | _, _ => False

/-- the first address of a block of one's own among arguments: its place, its block, the others -/
def lentAt : List T → Option (Nat × Nat × List T)
  | [] => none
  | t :: r => match t with
    | .ptr b 0 => some (0, b, r)
    | t => (match lentAt r with | some (i, b, l) => some (i + 1, b, t :: l) | none => none)
/-- the first object among arguments: its place, its block, the others -/
def obAt : List T → Option (Nat × Nat × List T)
  | [] => none
  | t :: r => match t with
    | .ob b => some (0, b, r)
    | t => (match obAt r with | some (i, b, l) => some (i + 1, b, t :: l) | none => none)
/-- what a call on an object comes to -/
def resB (fr b : Nat) (p p' : OP) (r : Res) (k : KO) : Prop :=
  match r with
  | .d a => k (.d a) (some (b, .abs p'))
  | .t l => k (.tup l) (some (b, .abs p'))
  | .ob p2 => p' = p ∧ k (.ob fr) (some (fr, .abs p2))
  | _ => False
/-- the function that a slot holds -/
def fnOf : T → Option FuncId
  | .d (.v (.func (.func f) a b)) => if a.size = 0 ∧ b.size = 0 then some f else none
  | _ => none
theorem fnOf_spec {t : T} {f : FuncId} (h : fnOf t = some f) : t = .d (.v (.func (.func f) #[] #[])) := by
  unfold fnOf at h
  split at h
  · split at h
    · next e => cases h; rw [Array.size_eq_zero_iff.1 e.1, Array.size_eq_zero_iff.1 e.2]
    · cases h
  · cases h
def flatBk : Bk → Bool
  | .var l => l.all fun s => match s with | .gen _ _ => false | _ => true
  | .obj _ => true
  | _ => false
def nolap (b : Nat) (l : List T) : Bool := l.all fun t => !t.refs.contains b
def resD (r : Res) (k : KO) : Prop := match r with | .d a => k (.d a) none | .t l => k (.tup l) none | _ => False
/-- where a package variable is looked into -/
def evG (G : Nat → Option (List Seg)) (s : St) (x : Operand) : T :=
  match x with
  | .global q => (match G q with | some l => .d (.ref l 0) | none => .dead)
  | x => s.ev x
/-- what is appended: so many elements, these cells -/
def srcK (s : St) : T → (Nat → List Seg → Prop) → Prop
  | .d (.row n l), K => K n l
  | .own b n, K => (match s.bk b with | some (.sl _ _ m l) => n = m ∧ K n l | _ => False)
  | .win b base n, K => (match s.bk b with | some (.var l) => (match cut l base n with | some m => base + n ≤ segN l ∧ K n m | none => False) | _ => False)
  | .d (.v (.slice none 0 0)), K => K 0 []
  | _, _ => False
/-- cells behind cells -/
def joinS : List Seg → List Seg → List Seg
  | [], m => m
  | [.ints k n a], [.ints k' m b] => if k = k' then [.ints k (n + m) (a ++ b)] else [.ints k n a, .ints k' m b]
  | [.bytes n a], [.bytes m b] => [.bytes (n + m) (a ++ b)]
  | [.bools n a], [.bools m b] => [.bools (n + m) (a ++ b)]
  | [.gen n a], [.gen m b] => [.gen (n + m) (a ++ b)]
  | l, m => l ++ m
/-- so many times these cells -/
def manyS (m : Nat) : List Seg → List Seg
  | [.ints k n a] => [.ints k (m * n) (List.replicate m a).flatten]
  | [.bytes n a] => [.bytes (m * n) (List.replicate m a).flatten]
  | [.bools n a] => [.bools (m * n) (List.replicate m a).flatten]
  | [.gen n a] => [.gen (m * n) (List.replicate m a).flatten]
  | l => (List.replicate m l).flatten

def ptOf (s : St) : T → Option Pt
  | .d (.row n l) => some (.dat (.row n l))
  | .d (.v (.slice none 0 0)) => some (.dat (.v (.slice none 0 0)))
  | .own b n => (match s.bk b with | some (.sl _ _ m _) => if n = m then some (.own b n) else none | _ => none)
  | .win b base n => some (.win b base n)
  | _ => none
def ptsOf (s : St) : List (Nat × Operand) → Nat → Option (List Pt)
  | [], _ => some []
  | (i, x) :: r, k => if i = k then (match ptOf s (s.ev x), ptsOf s r (k + 1) with | some p, some l => some (p :: l) | _, _ => none) else none
/-- bytes asx a text -/
def strOf : List Seg → Option ByteArray
  | [] => some ByteArray.empty
  | [.bytes _ bs] => some ⟨bs.toArray⟩
  | _ => none
/-- n like cells -/
def zerosK (m : Nat) (l : List Seg) : List Seg := manyS m l
/-- a bound of a stretch -/
def bndK (s : St) (x : Option Operand) (d : Nat) (K : Nat → Prop) : Prop :=
  match x with
  | none => K d
  | some y => (match s.ev y with | .d (.v (.int .i64 z)) => 0 ≤ z ∧ K z.toNat | _ => False)
/-- what an operation comes to; fr: the number of the block that it may make -/
def opA (E : EnvX) (o : Oper) (s : St) (fr : Nat) (k : KO) : Prop :=
  match o.op with
  | .move x | .assign x => k (s.ev x) none
  | .pick c a b =>
    (match s.ev c with
     | .d (.v (.bool t)) => StopC (condK t (k (s.ev a) none) (k (s.ev b) none))
     | _ => False)
  | .binOp op t x y _ =>
    (match s.ev x, s.ev y with
     | .d (.v p), .d (.v q) =>
       (match p, q with
        | .bool a, .bool b => (∃ i, E.Y t = some i ∧ E.P.underlying t = some .bool) ∧ (match op with | .eql => k (.d (.v (.bool (a == b)))) none | .neq => k (.d (.v (.bool (!(a == b))))) none | _ => False)
        | .string a, .string b => E.P.underlying t = some .string ∧ (match op with | .eql => k (.d (.v (.bool (a.toList == b.toList)))) none | .neq => k (.d (.v (.bool (!(a.toList == b.toList))))) none | .add => a.size + b.size ≤ 281474976710656 ∧ k (.d (.v (.string (a ++ b)))) none | _ => False)
        | .pointer none, .pointer none => E.P.underlying t = some (.pointer (E.P.pointee t)) ∧ (match op with | .eql => k (.d (.v (.bool true))) none | .neq => k (.d (.v (.bool false))) none | _ => False)
        | p, q => binK op (.v p) (.v q) fun r => k (.d r) none)
     | .ptr _ _, .d (.v (.pointer none)) => E.P.underlying t = some (.pointer (E.P.pointee t)) ∧ (match op with | .eql => k (.d (.v (.bool false))) none | .neq => k (.d (.v (.bool true))) none | _ => False)
     | .ob _, .d (.v (.pointer none)) => E.P.underlying t = some (.pointer (E.P.pointee t)) ∧ (match op with | .eql => k (.d (.v (.bool false))) none | .neq => k (.d (.v (.bool true))) none | _ => False)
     | .d (.agg l), .d (.agg m) =>
       (match E.Y t with
        | some i => i.eq = true ∧ sameKind l i.zero = true ∧ sameKind m i.zero = true ∧ (match op with | .eql => k (.d (.v (.bool (eqSegs l m)))) none | .neq => k (.d (.v (.bool (!eqSegs l m)))) none | _ => False)
        | none => False)
     | _, _ => False)
  | .unOp op _ x => (match op, s.ev x with | .not, .d (.v (.bool b)) => k (.d (.v (.bool (!b)))) none | .neg, .d (.v (.int q z)) => k (.d (.v (.int q (q.wrap (0 - z))))) none | _, _ => False)
  | .alloc e => (match E.Y e with | some i => k (.ptr fr 0) (some (fr, .var i.zero)) | none => False)
  | .box e x => (match s.ev x with | .d a => (match boxSegs a with | some l => k (.ptr fr 0) (some (fr, .var l)) | none => False) | _ => False)
  | .load t x =>
    (match E.Y t with
     | none => False
     | some i => (match evG E.G s x with
       | .ptr b base => (match s.bk b with | some (.var l) => rdK l i.agg i.sz base fun a => k (.d a) none | _ => False)
       | .pti b base rel => (match s.bk b with | some (.var l) => rdiK l i.agg i.sz base rel fun a => k (.d a) none | _ => False)
       | .ept b n off => (match s.bk b with | some (.sl _ _ m l) => n = m ∧ rdiK l i.agg i.sz 0 off fun a => k (.d a) none | _ => False)
       | .d (.ref l off) => (i.agg = true → i.sz ≠ 0) ∧ rdiK l i.agg i.sz 0 off fun a => k (.d a) none
       | .d (.sref l off) => (i.agg = true → i.sz ≠ 0) ∧ rdK l i.agg i.sz off fun a => k (.d a) none
       | _ => False))
  | .store t x y =>
    (match E.Y t with
     | none => False
     | some i => (match s.ev x, s.ev y with
       | .ptr b base, .d a => (match s.bk b with | some (.var l) => wrK l base a i.sz fun l' => k (.d (.v undef)) (some (b, .var l')) | _ => False)
       | .pti b base rel, .d a => (match s.bk b with | some (.var l) => wriK l base rel a i.sz fun l' => k (.d (.v undef)) (some (b, .var l')) | _ => False)
       | .ept b n off, .d a => (match s.bk b with | some (.sl e sz m l) => n = m ∧ n * sz = segN l ∧ i.sz ≠ 0 ∧ wriK l 0 off a i.sz fun l' => k (.d (.v undef)) (some (b, .sl e sz m l')) | _ => False)
       | _, _ => False))
  | .fieldAddr t x f =>
    (match E.Y t with
     | none => False
     | some i => (match i.fld[f]? with
       | none => False
       | some off => (match s.ev x with
         | .ptr b base => k (.ptr b (base + off)) none
         | .pti b base rel => k (.pti b base (rel + off)) none
         | .ept b n o => (match s.bk b with | some (.sl _ _ m _) => n = m ∧ k (.ept b n (o + off)) none | _ => False)
         | .d (.ref l o) => k (.d (.ref l (o + off))) none
         | .d (.sref l o) => k (.d (.sref l (o + off))) none
         | _ => False)))
  | .indexAddr t x ix =>
    (match E.Y t with
     | none => False
     | some i => i.esz ≠ 0 ∧ (match s.ev ix with
       | .d (.v (.int _ z)) => (match evG E.G s x with
         | .ptr b base => i.len ≠ 0 ∧ 0 ≤ z ∧ z < (i.len : Int) ∧ k (.pti b base (z.toNat * i.esz)) none
         | .pti b base rel => i.len ≠ 0 ∧ 0 ≤ z ∧ z < (i.len : Int) ∧ k (.pti b base (rel + z.toNat * i.esz)) none
         | .d (.ref l off) => i.len ≠ 0 ∧ 0 ≤ z ∧ z < (i.len : Int) ∧ k (.d (.ref l (off + z.toNat * i.esz))) none
         | .d (.row n l) => i.sl = true ∧ 0 ≤ z ∧ z < (n : Int) ∧ n * i.esz = segN l ∧ k (.d (.ref l (z.toNat * i.esz))) none
         | .d (.recs n sz f) => i.sl = true ∧ 0 ≤ z ∧ z < (n : Int) ∧ sz = i.esz ∧ k (.d (.sref (f z.toNat) 0)) none
         | .ept b n off => (match s.bk b with | some (.sl _ _ m _) => n = m ∧ i.len ≠ 0 ∧ 0 ≤ z ∧ z < (i.len : Int) ∧ k (.ept b n (off + z.toNat * i.esz)) none | _ => False)
         | .own b n => (match s.bk b with | some (.sl e sz m l) => i.sl = true ∧ 0 ≤ z ∧ z < (n : Int) ∧ n = m ∧ n * i.esz = segN l ∧ k (.ept b n (z.toNat * i.esz)) none | _ => False)
         | _ => False)
       | _ => False))
  | .index t x ix =>
    (match E.Y t with
     | none => False
     | some i => i.esz ≠ 0 ∧ i.len ≠ 0 ∧ (match s.ev x, s.ev ix, E.Y i.elem with
       | .d (.agg l), .d (.v (.int _ z)), some j => 0 ≤ z ∧ z < (i.len : Int) ∧ rdiK l j.agg i.esz 0 (z.toNat * i.esz) fun a => k (.d a) none
       | _, _, _ => False))
  | .field t x f =>
    (match E.Y t with
     | none => False
     | some i => (match i.fld[f]?, i.fty[f]?, s.ev x with
       | some off, some ft, .d (.agg l) => (match E.Y ft with | some j => rdK l j.agg j.sz off fun a => k (.d a) none | none => False)
       | _, _, _ => False))
  | .build t parts =>
    (match E.Y t with
     | none => False
     | some i => i.agg = true ∧ (i.esz ≠ 0 → i.len ≠ 0) ∧ fillA (fun f => if i.esz = 0 then i.plc[f]? else some (f * i.esz, i.esz)) s parts.toList i.zero fun l => k (.d (.agg l)) none)
  | .convert src dst x =>
    (match E.Y src, E.Y dst, s.ev x with
     | some _, some i, .d (.v (.int _ z)) => (match i.knd with | some q => k (.d (.v (.int q (q.wrap z)))) none | none => False)
     | some i, some _, y => i.sl = true ∧ E.P.underlying i.elem = some (.int .u8) ∧ E.P.underlying dst = some .string ∧ argK s [y] fun l _ => (match l with
       | [.row m news] => (match strOf news with | some b => b.size = m ∧ m ≤ 140737488355328 ∧ k (.d (.v (.string b))) none | none => False)
       | [.v (.slice none 0 0)] => k (.d (.v (.string .empty))) none
       | _ => False)
     | _, _, _ => False)
  | .slice t x lo hi mx =>
    (match E.Y t, s.ev x, lo, hi, mx with
     | some i, .ptr b base, none, none, none => i.len ≠ 0 ∧ i.esz = 1 ∧ i.len ≤ 1000000 ∧ k (.win b base i.len) none
     | some i, .pti b base rel, none, none, none => i.len ≠ 0 ∧ i.esz = 1 ∧ i.len ≤ 1000000 ∧ k (.win b (base + rel) i.len) none
     | some i, .d (.row n l), lo, hi, none => i.sl = true ∧ i.esz ≠ 0 ∧ bndK s lo 0 fun a => bndK s hi n fun b => a ≤ b ∧ b ≤ n ∧ subK l (a * i.esz) ((b - a) * i.esz) fun m => k (.d (.row (b - a) m)) none
     | some i, .own b n, none, hi, none => i.sl = true ∧ i.esz ≠ 0 ∧ (match s.bk b with | some (.sl _ _ q l) => n = q ∧ bndK s hi n fun c => c ≤ n ∧ k (.pre b c n) none | _ => False)
     | _, _, _, _, _ => False)
  | .call c =>
    (match c.callee with
     | .value x => (match fnOf (s.ev x) with
       | some f =>
         (match lentAt (c.args.toList.map s.ev) with
          | none => (match obAt (c.args.toList.map s.ev) with
            | none => argK s (c.args.toList.map s.ev) fun l lent => E.C f l fun r => (lent = true → flatRes r = true) ∧ resK fr k r
            | some (pos, b, rest) => (match s.bk b with
              | some (.abs p) => nolap b rest = true ∧ argK s rest fun l _ => E.B f pos p l fun r p' => resB fr b p p' r k
              | _ => False))
          | some (pos, b, rest) => (match s.bk b with
            | some (.obj p) => nolap b rest = true ∧ argK s rest fun l lent => E.M f pos (.obj p) l fun r x' => x' = .obj p ∧ (lent = true → flatRes r = true) ∧ resD r k
            | _ => False))
       | none => False)
     | .builtin .append =>
       (match c.args.toList, c.argTypes.toList with
        | [x, y], [t, t'] => t = t' ∧ (match E.Y t with
          | some i => i.sl = true ∧ i.esz ≠ 0 ∧ (match E.Y i.elem with
            | some j => j.bytes ≠ 0 ∧ segN j.zero = i.esz ∧ srcK s (s.ev y) fun m news => segN news = m * i.esz ∧ (match s.ev x with
              | .own b n => (match s.bk b with
                | some (.sl e sz q l) => n = q ∧ e = i.elem ∧ sz = i.esz ∧ (n + m) * j.bytes ≤ 140737488355328 ∧ k (.own b (n + m)) (some (b, .sl e sz (n + m) (joinS l news)))
                | _ => False)
              | .d (.v (.slice none 0 0)) => m * j.bytes ≤ 140737488355328 ∧ k (.own fr m) (some (fr, .sl i.elem i.esz m news))
              | _ => False)
            | none => False)
          | none => False)
        | _, _ => False)
     | .builtin .min =>
       (match c.args.toList.map s.ev with
        | [.d (.v (.int q x)), .d (.v (.int _ y))] => k (.d (.v (.int q (if y < x then y else x)))) none
        | _ => False)
     | .builtin .max =>
       (match c.args.toList.map s.ev with
        | [.d (.v (.int q x)), .d (.v (.int _ y))] => k (.d (.v (.int q (if y > x then y else x)))) none
        | _ => False)
     | .builtin .len =>
       (match c.args.toList, c.argTypes.toList with
        | [x], [t] => (match E.Y t with
          | some i => i.sl = true ∧ (match s.ev x with
            | .d (.row n _) => k (.d (.v (.int .i64 n))) none
            | .d (.recs n _ _) => k (.d (.v (.int .i64 n))) none
            | .own b n => (match s.bk b with | some (.sl _ _ m _) => n = m ∧ k (.d (.v (.int .i64 n))) none | _ => False)
            | .win _ _ n => k (.d (.v (.int .i64 n))) none
            | .d (.v (.slice none 0 0)) => k (.d (.v (.int .i64 0))) none
            | _ => False)
          | none => False)
        | _, _ => False)
     | _ => False)
  | .extract x i => (match s.ev x with | .tup l => (match l[i]? with | some a => k (.d a) none | none => False) | _ => False)
  | .nilCheck x => (match s.ev x with | .ptr b base => k (.ptr b base) none | .pti b base rel => k (.pti b base rel) none | .d (.ref l q) => k (.d (.ref l q)) none | .d (.sref l q) => k (.d (.sref l q)) none | _ => False)
  | .makeSlice t x y =>
    (match E.Y t, s.ev x, s.ev y with
     | some i, .d (.v (.int _ n)), .d (.v (.int _ c)) => i.sl = true ∧ i.esz ≠ 0 ∧ n = c ∧ 0 ≤ n ∧ n.toNat * i.esz ≤ 16777216 ∧ (match E.Y i.elem with
       | some j => segN j.zero = i.esz ∧ j.bytes * n.toNat ≤ 281474976710656 ∧ k (.own fr n.toNat) (some (fr, .sl i.elem i.esz n.toNat (zerosK n.toNat j.zero)))
       | none => False)
     | _, _, _ => False)
  | .buildSlice t len parts =>
    (match E.Y t with
     | none => False
     | some i => i.sl = true ∧ i.esz ≠ 0 ∧ (match len with
      | 0 => parts.toList = [] ∧ (match E.Y i.elem with | some j => k (.own fr 0) (some (fr, .sl i.elem i.esz 0 (manyS 0 j.zero))) | none => False)
      | _ + 1 => len ≠ 0 ∧ len * i.esz ≤ 16777216 ∧ (match E.Y i.elem with
       | some j => (match j.sl with
         | true => i.esz = 1 ∧ (match ptsOf s parts.toList 0 with | some ps => ps.length = len ∧ segN j.zero = 1 ∧ k (.rows ps) none | none => False)
         | false => segN j.zero = i.esz ∧ fillA (fun f => some (f * i.esz, i.esz)) s parts.toList (manyS len j.zero) fun l => k (.own fr len) (some (fr, .sl i.elem i.esz len l)))
       | none => False)))
  | _ => False
end Go.Proofs.Ytcfdlffjghlghaa
