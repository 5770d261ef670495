/-
  Words of 64 binary digits and bytes, as the program's numbers. No program is named here.
-/
import Derived.WalkKit
import Derived.ProofKit
import Derived.Lib.Hide
import Derived.OwnWalk
import Derived.Laws.AppendOwnNone
import Derived.Test.YtanpamcecaoanaaChecked
import Derived.StillTailTactics
import Derived.Lib.QuietBelow
import Derived.Still
import Derived.ChangeKeysEq
import Derived.OpenShut
import Derived.ChangeSlices
import Derived.Deep.Matrix
import Derived.SizedLaws
import Derived.Laws.BytesArg
import Derived.ChangeSame
namespace Go.Proofs.Ytanpamcecaoanaa
set_option maxRecDepth 100000
open Go.RowKit

/-- a word as a number -/
def U (x : BitVec 64) : Int := (x.toNat : Int)
/-- a byte as a number -/
def Bt (x : UInt8) : Int := (x.toNat : Int)
theorem U_def (x : BitVec 64) : U x = (x.toNat : Int) := rfl
theorem U_bd (x : BitVec 64) : 0 ≤ U x ∧ U x < 18446744073709551616 := by
  have := x.isLt; unfold U; omega
theorem Bt_bd (x : UInt8) : 0 ≤ Bt x ∧ Bt x < 256 := by
  have := x.toNat_lt; unfold Bt; omega
theorem U_inj {x y : BitVec 64} (h : U x = U y) : x = y := BitVec.eq_of_toNat_eq (Int.ofNat_inj.1 h)
theorem Bt_inj {x y : UInt8} (h : Bt x = Bt y) : x = y := UInt8.toNat_inj.1 (Int.ofNat_inj.1 h)
theorem U_beq (x y : BitVec 64) : (U x == U y) = (x == y) := by
  by_cases h : x = y
  · subst h; simp
  · rw [beq_eq_false_iff_ne.2 h, beq_eq_false_iff_ne.2 fun e => h (U_inj e)]
theorem Bt_beq (x y : UInt8) : (Bt x == Bt y) = (x == y) := by
  by_cases h : x = y
  · subst h; simp
  · rw [beq_eq_false_iff_ne.2 h, beq_eq_false_iff_ne.2 fun e => h (Bt_inj e)]
theorem ofInt_U (x : BitVec 64) : BitVec.ofInt 64 (U x) = x := by
  unfold U; rw [BitVec.ofInt_natCast, BitVec.ofNat_toNat, BitVec.setWidth_eq]
theorem wrap_U (x : BitVec 64) : IntKind.u64.wrap (x.toNat : Int) = U x := IntWalk.u64_in _ (by have := x.isLt; omega)
theorem U_xor (x y : BitVec 64) : bits .xor .u64 (U x) (U y) = U (x ^^^ y) := by
  show IntKind.u64.wrap ((BitVec.ofInt 64 (U x) ^^^ BitVec.ofInt 64 (U y)).toNat : Int) = _
  rw [ofInt_U, ofInt_U, wrap_U]
theorem U_and (x y : BitVec 64) : bits .and .u64 (U x) (U y) = U (x &&& y) := by
  show IntKind.u64.wrap ((BitVec.ofInt 64 (U x) &&& BitVec.ofInt 64 (U y)).toNat : Int) = _
  rw [ofInt_U, ofInt_U, wrap_U]
theorem U_or (x y : BitVec 64) : bits .or .u64 (U x) (U y) = U (x ||| y) := by
  show IntKind.u64.wrap ((BitVec.ofInt 64 (U x) ||| BitVec.ofInt 64 (U y)).toNat : Int) = _
  rw [ofInt_U, ofInt_U, wrap_U]
theorem U_not (x : BitVec 64) : bits .xor .u64 IntKind.u64.max (U x) = U (~~~x) := by
  show IntKind.u64.wrap ((BitVec.ofInt 64 IntKind.u64.max ^^^ BitVec.ofInt 64 (U x)).toNat : Int) = _
  rw [ofInt_U, show BitVec.ofInt 64 IntKind.u64.max = BitVec.allOnes 64 by decide, BitVec.allOnes_xor, wrap_U]
theorem U_shl (x : BitVec 64) (n : Nat) : IntKind.u64.wrap (U x * 2 ^ n) = U (x <<< n) := by
  rw [IntKind.wrap_u64, U_def, U_def, BitVec.toNat_shiftLeft, Nat.shiftLeft_eq]
  rfl
theorem U_shr (x : BitVec 64) (n : Nat) : U x / 2 ^ n = U (x >>> n) := by
  rw [U_def, U_def, BitVec.toNat_ushiftRight, Nat.shiftRight_eq_div_pow]
  rfl
theorem U_rot (x : BitVec 64) (n : Nat) (h : n < 64) : (x >>> n ||| x <<< (64 - n)) = x.rotateRight n := by
  rw [BitVec.rotateRight_def, Nat.mod_eq_of_lt h]
theorem U_rotl (x : BitVec 64) (n : Nat) (h : n < 64) : (x <<< (64 - n) ||| x >>> n) = x.rotateRight n := by
  rw [BitVec.or_comm, U_rot x n h]

/-- five words -/
structure W5 where
  a : BitVec 64
  b : BitVec 64
  c : BitVec 64
  d : BitVec 64
  e : BitVec 64
deriving DecidableEq

/-- five words as an array of the program's -/
abbrev V5 (x : W5) : Value := .agg #[.int .u64 (U x.a), .int .u64 (U x.b), .int .u64 (U x.c), .int .u64 (U x.d), .int .u64 (U x.e)]

/-- a word xored with itself turned right by two numbers -/
def tw (x : BitVec 64) (m n : Nat) : BitVec 64 := x ^^^ x.rotateRight m ^^^ x.rotateRight n
def spreadW (x : W5) : W5 := ⟨tw x.a 19 28, tw x.b 61 39, tw x.c 1 6, tw x.d 10 17, tw x.e 7 41⟩
/-- the words meet, digit by digit -/
def mixW (x : W5) : W5 :=
  let a := x.a ^^^ x.e
  let e := x.e ^^^ x.d
  let c := x.c ^^^ x.b
  let b := x.b
  let d := x.d
  let ta := ~~~a &&& b
  let tb := ~~~b &&& c
  let tc := ~~~c &&& d
  let td := ~~~d &&& e
  let te := ~~~e &&& a
  let a := a ^^^ tb
  let b := b ^^^ tc
  let c := c ^^^ td
  let d := d ^^^ te
  let e := e ^^^ ta
  let b := b ^^^ a
  let a := a ^^^ e
  let d := d ^^^ c
  let c := ~~~c
  ⟨a, b, c, d, e⟩
def rndW (r : Nat) (x : W5) : W5 := spreadW (mixW { x with c := x.c ^^^ BitVec.ofNat 64 (240 - 15 * r) })
def turnN : Nat → W5 → W5
  | 0, x => x
  | n + 1, x => rndW n (turnN n x)
def turnW (x : W5) : W5 := turnN 12 x
end Go.Proofs.Ytanpamcecaoanaa

/-
  A block of the call's own, known whole; how it stays. No program is named here.
-/
namespace Go.Proofs.Ytanpamcecaoanaa
set_option maxRecDepth 100000
open Go.RowKit

/-- block g holds just these cells, none of them frozen -/
def Blk (w : World) (g : Nat) (cs : Array Value) (t : TypeId) : Prop := w.heap[g]? = some (.cells cs t (0, 0))

theorem Blk.cell {w : World} {g : Nat} {cs : Array Value} {t : TypeId} (h : Blk w g cs t) (i : Nat) : w.cell? ⟨g, i, none⟩ = cs[i]? := cell_of_row w g i cs t (0, 0) h
theorem Blk.frozen {w : World} {g : Nat} {cs : Array Value} {t : TypeId} (h : Blk w g cs t) (i : Nat) : w.frozen? ⟨g, i, none⟩ = false := frozen_of_row w g i cs t h
theorem Blk.lt {w : World} {g : Nat} {cs : Array Value} {t : TypeId} (h : Blk w g cs t) : g < w.heap.size := by
  rcases Nat.lt_or_ge g w.heap.size with h1 | h1
  · exact h1
  · unfold Blk at h; rw [Array.getElem?_eq_none h1] at h; cases h
theorem Blk.below {w w' : World} {B g : Nat} {cs : Array Value} {t : TypeId} (h : Blk w g cs t) (b : Below B w w') (hg : g < B) : Blk w' g cs t := (b.block g hg).trans h
theorem Blk.keep {w w' : World} {g : Nat} {cs : Array Value} {t : TypeId} (h : Blk w g cs t) (b : Below w.heap.size w w') : Blk w' g cs t := h.below b h.lt
theorem Blk.new (w : World) (cs : Array Value) (t : TypeId) : Blk (w.alloc (.cells cs t)) w.heap.size cs t := heap_alloc_new w _
theorem Blk.newAt {w : World} {g : Nat} (cs : Array Value) (t : TypeId) (hg : g = w.heap.size) : Blk (w.alloc (.cells cs t)) g cs t := hg ▸ Blk.new w cs t
theorem Blk.alloc {w : World} {g : Nat} {cs : Array Value} {t : TypeId} (h : Blk w g cs t) (o : Obj) : Blk (w.alloc o) g cs t := (Below.heap_alloc w o g h.lt).trans h
theorem Blk.drew {w : World} {g : Nat} {cs : Array Value} {t : TypeId} (h : Blk w g cs t) : Blk w.drew g cs t := h
theorem Blk.set {w : World} {g : Nat} {cs : Array Value} {t : TypeId} (h : Blk w g cs t) (i : Nat) (v : Value) : Blk (w.setCell ⟨g, i, none⟩ v) g (cs.setIfInBounds i v) t := heap_setCell_same w g i cs t v h
theorem Blk.other {w : World} {g : Nat} {cs : Array Value} {t : TypeId} (h : Blk w g cs t) (a : Addr) (v : Value) (hg : g ≠ a.block) : Blk (w.setCell a v) g cs t := (heap_setCell_other w a g v hg).trans h
theorem Blk.copy {w : World} {g : Nat} {cs cs' : Array Value} {t : TypeId} (h : Blk w g cs t) (e : cs = cs') : Blk w g cs' t := e ▸ h

theorem size_alloc (w : World) (o : Obj) : (w.alloc o).heap.size = w.heap.size + 1 := by
  show (w.heap.push o).size = _; simp
theorem _root_.Go.RowKit.Below.lift {B B' : Nat} {a b c : World} (h : Below B a b) (k : Below B' b c) (hB : B ≤ B') : Below B a c := h.trans (k.mono hB)
/-- five cells stored -/
theorem Blk.set5 {w : World} {g : Nat} {t : TypeId} {a b c d e : Value} (h : Blk w g #[a, b, c, d, e] t) (a' b' c' d' e' : Value) :
    Blk (((((w.setCell ⟨g, 0, none⟩ a').setCell ⟨g, 1, none⟩ b').setCell ⟨g, 2, none⟩ c').setCell ⟨g, 3, none⟩ d').setCell ⟨g, 4, none⟩ e') g #[a', b', c', d', e'] t :=
  (((((h.set 0 a').set 1 b').set 2 c').set 3 d').set 4 e').copy (by simp)
theorem Blk.far5 {w : World} {g T : Nat} {cs : Array Value} {t : TypeId} (h : Blk w g cs t) (hne : g ≠ T) (a' b' c' d' e' : Value) :
    Blk (((((w.setCell ⟨T, 0, none⟩ a').setCell ⟨T, 1, none⟩ b').setCell ⟨T, 2, none⟩ c').setCell ⟨T, 3, none⟩ d').setCell ⟨T, 4, none⟩ e') g cs t :=
  ((((h.other _ _ hne).other _ _ hne).other _ _ hne).other _ _ hne).other _ _ hne
theorem Blk.drew5 {w : World} {g : Nat} {cs : Array Value} {t : TypeId} (h : Blk w g cs t) : Blk w.drew.drew.drew.drew.drew g cs t := h.drew.drew.drew.drew.drew
theorem below_set5 {w w0 : World} {B T : Nat} (h : Below B w0 w) (hT : B ≤ T) (a' b' c' d' e' : Value) :
    Below B w0 (((((w.setCell ⟨T, 0, none⟩ a').setCell ⟨T, 1, none⟩ b').setCell ⟨T, 2, none⟩ c').setCell ⟨T, 3, none⟩ d').setCell ⟨T, 4, none⟩ e') :=
  ((((h.setCell (p := ⟨T, 0, none⟩) hT _).setCell (p := ⟨T, 1, none⟩) hT _).setCell (p := ⟨T, 2, none⟩) hT _).setCell (p := ⟨T, 3, none⟩) hT _).setCell (p := ⟨T, 4, none⟩) hT _
theorem below_drew5 {w w0 : World} {B : Nat} (h : Below B w0 w) : Below B w0 w.drew.drew.drew.drew.drew := h.drew.drew.drew.drew.drew

/-- what a walk is told of a block of five cells -/
theorem Blk.five {w : World} {g : Nat} {t : TypeId} {a b c d e : Value} (h : Blk w g #[a, b, c, d, e] t) :
    w.cell? ⟨g, 0, none⟩ = some a ∧ w.cell? ⟨g, 1, none⟩ = some b ∧ w.cell? ⟨g, 2, none⟩ = some c ∧ w.cell? ⟨g, 3, none⟩ = some d ∧ w.cell? ⟨g, 4, none⟩ = some e :=
  ⟨h.cell 0, h.cell 1, h.cell 2, h.cell 3, h.cell 4⟩

/-! only one block of the old ones is written -/
theorem grown_refl (w : World) (r : Option Nat) : w.grownBy w r := ⟨rfl, rfl, rfl, Nat.le_refl _, fun _ _ _ => rfl⟩
theorem grown_trans {a b c : World} {r : Option Nat} (h : a.grownBy b r) (k : b.grownBy c r) : a.grownBy c r :=
  ⟨k.os.trans h.os, k.tape.trans h.tape, k.output.trans h.output, Nat.le_trans h.size k.size, fun i hi hr => (k.block i (Nat.lt_of_lt_of_le hi h.size) hr).trans (h.block i hi hr)⟩
theorem grown_below {a b c : World} {r : Option Nat} (h : a.grownBy b r) (k : Below b.heap.size b c) : a.grownBy c r :=
  grown_trans h ⟨k.os, k.tape, k.output, k.size, fun i hi _ => k.block i hi⟩
theorem grown_drew {a b : World} {r : Option Nat} (h : a.grownBy b r) : a.grownBy b.drew r := grown_trans h ⟨rfl, rfl, rfl, Nat.le_refl _, fun _ _ _ => rfl⟩
theorem grown_setCell {a b : World} {g : Nat} (h : a.grownBy b (some g)) (i : Nat) (v : Value) : a.grownBy (b.setCell ⟨g, i, none⟩ v) (some g) :=
  grown_trans h ⟨rfl, rfl, rfl, by simp [World.setCell], fun k _ hr => heap_setCell_other _ _ _ _ (fun e => hr (congrArg some e))⟩
theorem below_grown {B : Nat} {a b c : World} {g : Nat} (h : Below B a b) (k : b.grownBy c (some g)) (hg : B ≤ g) (hB : B ≤ b.heap.size) : Below B a c :=
  h.grown k hB (fun _ e => by injection e with e; omega)
theorem Blk.grown {w w' : World} {g g' : Nat} {cs : Array Value} {t : TypeId} (h : Blk w g cs t) (k : w.grownBy w' (some g')) (hne : g ≠ g') : Blk w' g cs t :=
  (k.block g h.lt (fun e => hne (by injection e))).trans h
end Go.Proofs.Ytanpamcecaoanaa

/-
  The sponge in plain words: taking bytes, its end, the sum; and that padded eights come to the same. No program is named here.
-/
namespace Go.Proofs.Ytanpamcecaoanaa
set_option maxRecDepth 100000
open Go.RowKit

/-- a byte as a word -/
def w8 (c : UInt8) : BitVec 64 := BitVec.ofNat 64 c.toNat
theorem U_w8 (c : UInt8) : U (w8 c) = Bt c := by
  have := c.toNat_lt
  unfold w8 Bt; rw [U_def, BitVec.toNat_ofNat, Nat.mod_eq_of_lt (by omega)]
theorem shl_w8 (c : UInt8) (n : Nat) : IntKind.u64.wrap (Bt c * 2 ^ n) = U (w8 c <<< n) := by rw [← U_w8, U_shl]
/-- one of a word's eight bytes, the highest first -/
def byteAt (w : BitVec 64) (j : Nat) : UInt8 := UInt8.ofNat ((w >>> (56 - 8 * j)).toNat)
theorem wrap_byteAt (w : BitVec 64) (j : Nat) : IntKind.u8.wrap (U w / 2 ^ (56 - 8 * j)) = Bt (byteAt w j) := by
  rw [U_shr, IntKind.wrap_u8, U_def]
  unfold byteAt Bt
  rw [UInt8.toNat_ofNat']
  rfl

/-- what has taken bytes -/
structure Sp where
  x : W5
  at_ : Nat
def takeB (s : Sp) (c : UInt8) : Sp :=
  let x : W5 := { s.x with a := s.x.a ^^^ (w8 c <<< (56 - 8 * s.at_)) }
  if s.at_ = 7 then ⟨turnW x, 0⟩ else ⟨x, s.at_ + 1⟩
def takes (s : Sp) (l : List UInt8) : Sp := l.foldl takeB s
theorem takes_snoc (s : Sp) (l : List UInt8) (c : UInt8) : takes s (l ++ [c]) = takeB (takes s l) c := by unfold takes; rw [List.foldl_append]; rfl
theorem takes_append (s : Sp) (l m : List UInt8) : takes s (l ++ m) = takes (takes s l) m := by unfold takes; rw [List.foldl_append]
theorem takeB_at (s : Sp) (c : UInt8) (h : s.at_ ≤ 7) : (takeB s c).at_ ≤ 7 := by
  unfold takeB
  by_cases h7 : s.at_ = 7
  · simp [h7]
  · simp [h7]; omega
theorem takes_at (l : List UInt8) : ∀ (s : Sp), s.at_ ≤ 7 → (takes s l).at_ ≤ 7 := by
  induction l with
  | nil => exact fun s h => h
  | cons c l ih => exact fun s h => ih _ (takeB_at s c h)
def tIter : Nat → W5 → W5
  | 0, x => x
  | n + 1, x => turnW (tIter n x)
def outB (x : W5) (n : Nat) : UInt8 := byteAt (tIter (n / 8 + 1) x).a (n % 8)
def outs (x : W5) : List UInt8 := (List.range 32).map (outB x)
/-- with the byte 80 taken -/
def lastW (s : Sp) : W5 := { s.x with a := s.x.a ^^^ (0x80#64 <<< (56 - 8 * s.at_)) }
def endW (s : Sp) : List UInt8 := outs (lastW s)
def beginW : Sp := ⟨turnW ⟨32, 0, 0, 0, 0⟩, 0⟩
def sumW (l : List UInt8) : List UInt8 := endW (takes beginW l)
theorem outs_length (x : W5) : (outs x).length = 32 := by simp [outs]
theorem sumW_length (l : List UInt8) : (sumW l).length = 32 := outs_length _
def deriveW (h : List UInt8) (label : List UInt8) (l : List UInt8) : List UInt8 := sumW (h ++ (UInt8.ofNat label.length :: label) ++ l)

/-- bytes as cells -/
def HC (l : List UInt8) : Array Value := (l.map fun b => Value.int .u8 (Bt b)).toArray
/-- a sum as a value -/
def HV (l : List UInt8) : Value := .agg (HC l)
theorem HC_size (l : List UInt8) : (HC l).size = l.length := by simp [HC]
theorem HC_get (l : List UInt8) (i : Nat) : (HC l)[i]? = (l[i]?).map fun b => Value.int .u8 (Bt b) := by simp [HC]
theorem HC_get_lt (l : List UInt8) (i : Nat) (h : i < l.length) : (HC l)[i]? = some (.int .u8 (Bt l[i])) := by rw [HC_get, List.getElem?_eq_getElem h]; rfl
theorem HC_set (l : List UInt8) (i : Nat) (b : UInt8) : (HC l).setIfInBounds i (.int .u8 (Bt b)) = HC (l.set i b) := by
  simp [HC, List.map_set]
theorem HC_inj {l m : List UInt8} (h : HC l = HC m) : l = m := by
  have h2 : l.map (fun b => Value.int .u8 (Bt b)) = m.map (fun b => Value.int .u8 (Bt b)) := by simpa [HC] using h
  refine List.map_inj_right (f := fun b => Value.int .u8 (Bt b)) (fun x y hxy => ?_) |>.1 h2
  injection hxy with _ h3
  exact Bt_inj h3

/-- where a list is written from its beginning on -/
theorem set_front (out : List UInt8) (n k : Nat) (hn : n < out.length) (hk : out.length = n + 1 + k) (z : List UInt8) (hz : z.length = k) (b : UInt8) :
    (out.take n ++ b :: z).set n out[n] = out.take (n + 1) ++ z := by
  rw [List.set_append_right _ _ (by rw [List.length_take]; omega), List.length_take, Nat.min_eq_left (by omega), Nat.sub_self, List.set_cons_zero, List.take_succ_eq_append_getElem hn, List.append_assoc]
  rfl

/-- a slice that reads as these bytes -/
structure Row8 (w : World) (a : Option Addr) (len : Nat) (bs : List UInt8) : Prop where
  len_eq : len = bs.length
  small : bs.length ≤ maxLen
  cells : bs = [] ∨ ∃ b off, a = some ⟨b, off, none⟩ ∧ ∀ (i : Nat) (h : i < bs.length), w.cell? ⟨b, off + i, none⟩ = some (.int .u8 (Bt bs[i]))
theorem Row8.nil (w : World) (a : Option Addr) : Row8 w a 0 [] := ⟨rfl, by simp, .inl rfl⟩
theorem Row8.mono {w w' : World} {a : Option Addr} {len : Nat} {bs : List UInt8} (h : Row8 w a len bs) (k : ∀ x v, w.cell? x = some v → a = some ⟨x.block, (a.getD default).off, none⟩ → w'.cell? x = some v) : Row8 w' a len bs := by
  refine ⟨h.len_eq, h.small, ?_⟩
  rcases h.cells with h1 | ⟨b, off, rfl, hc⟩
  · exact .inl h1
  · exact .inr ⟨b, off, rfl, fun i hi => k _ _ (hc i hi) (by simp)⟩
theorem Row8.below {w w' : World} {a : Option Addr} {len : Nat} {bs : List UInt8} (h : Row8 w a len bs) (b : Below w.heap.size w w') : Row8 w' a len bs :=
  h.mono fun _ _ hx _ => (b.cell (block_lt_of_cell hx)).trans hx
theorem Row8.grown {w w' : World} {a : Option Addr} {len : Nat} {bs : List UInt8} {g : Nat} (h : Row8 w a len bs) (k : w.grownBy w' (some g)) (hne : ∀ x : Addr, a = some x → x.block ≠ g) : Row8 w' a len bs :=
  h.mono fun _ _ hx ha => k.cell hx (fun e => hne _ ha (by injection e))
/-- a state as cells -/
abbrev C6 (s : Sp) : Array Value := #[.int .u64 (U s.x.a), .int .u64 (U s.x.b), .int .u64 (U s.x.c), .int .u64 (U s.x.d), .int .u64 (U s.x.e), .int .i64 s.at_]
theorem Blk.six {w : World} {g : Nat} {t : TypeId} {a b c d e f : Value} (h : Blk w g #[a, b, c, d, e, f] t) :
    w.cell? ⟨g, 0, none⟩ = some a ∧ w.cell? ⟨g, 1, none⟩ = some b ∧ w.cell? ⟨g, 2, none⟩ = some c ∧ w.cell? ⟨g, 3, none⟩ = some d ∧ w.cell? ⟨g, 4, none⟩ = some e ∧ w.cell? ⟨g, 5, none⟩ = some f :=
  ⟨h.cell 0, h.cell 1, h.cell 2, h.cell 3, h.cell 4, h.cell 5⟩
end Go.Proofs.Ytanpamcecaoanaa

/-
  Whole rows: loaded, stored. No program is named here.
-/
namespace Go.Proofs.Ytanpamcecaoanaa
set_option maxRecDepth 100000
open Go.RowKit

theorem HC_one (l : List UInt8) : (HC l).all (·.oneCell') = true := by
  rw [Array.all_eq_true_iff_forall_mem]
  intro v hv
  simp only [HC, List.mem_toArray, List.mem_map] at hv
  obtain ⟨b, _, rfl⟩ := hv
  rfl
theorem HC_zeros : HC (List.replicate 32 0) = Array.replicate 32 (.int .u8 0) := by rfl
theorem Blk.setRow {w : World} {g : Nat} {cs : Array Value} {t : TypeId} (h : Blk w g cs t) (cs' : Array Value) : Blk (w.setRow g cs') g cs' t := setRow_heap w g cs cs' t _ h
theorem Blk.otherRow {w : World} {g g' : Nat} {cs : Array Value} {t : TypeId} (h : Blk w g cs t) (cs' : Array Value) (hne : g ≠ g') : Blk (w.setRow g' cs') g cs t := (setRow_other w g' g cs' hne).trans h
theorem grown_setRow {a b : World} {r : Option Nat} {g : Nat} (h : a.grownBy b r) (cs : Array Value) (hg : a.heap.size ≤ g ∨ r = some g) : a.grownBy (b.setRow g cs) r :=
  ⟨h.os, h.tape, h.output, by rw [size_setRow]; exact h.size, fun k hk hr => (setRow_other b g k cs (by rcases hg with h1 | h1 <;> (intro e; subst e; first | omega | exact hr h1.symm))).trans (h.block k hk hr)⟩
theorem below_setRow {B : Nat} {a b : World} {g : Nat} (h : Below B a b) (cs : Array Value) (hg : B ≤ g) : Below B a (b.setRow g cs) :=
  h.trans ⟨rfl, rfl, rfl, by rw [size_setRow]; exact Nat.le_refl _, fun k hk => setRow_other b g k cs (by omega)⟩
theorem grown_setNew {a b : World} {r : Option Nat} {g : Nat} (h : a.grownBy b r) (i : Nat) (v : Value) (hg : a.heap.size ≤ g) : a.grownBy (b.setCell ⟨g, i, none⟩ v) r :=
  ⟨h.os, h.tape, h.output, by simp [World.setCell]; exact h.size, fun k hk hr => (heap_setCell_other b ⟨g, i, none⟩ k v (by simp; omega)).trans (h.block k hk hr)⟩
/-- the front of a list, noughts behind it -/
def front (out : List UInt8) (n : Nat) : List UInt8 := out.take n ++ List.replicate (32 - n) 0
theorem front_zero (out : List UInt8) : front out 0 = List.replicate 32 0 := by simp [front]
theorem front_all (out : List UInt8) (h : out.length = 32) : front out 32 = out := by rw [front, List.take_of_length_le (by omega)]; simp
theorem front_length (out : List UInt8) (n : Nat) (h : out.length = 32) (hn : n ≤ 32) : (front out n).length = 32 := by simp [front]; omega
theorem front_set (out : List UInt8) (n : Nat) (h : out.length = 32) (hn : n < 32) (b : UInt8) (hb : out[n]? = some b) : (front out n).set n b = front out (n + 1) := by
  obtain ⟨h1, h2⟩ := List.getElem?_eq_some_iff.1 hb
  subst h2
  have e : List.replicate (32 - n) (0 : UInt8) = 0 :: List.replicate (32 - (n + 1)) 0 := by rw [show 32 - n = (32 - (n + 1)) + 1 by omega]; rfl
  unfold front
  rw [e]
  exact set_front out n (32 - (n + 1)) h1 (by omega) _ (by simp) 0
theorem outs_get (x : W5) (i j : Nat) (hi : i < 4) (hj : j < 8) : (outs x)[8 * i + j]? = some (byteAt (tIter (i + 1) x).a j) := by
  unfold outs
  rw [List.getElem?_map, List.getElem?_range (by omega)]
  show some (outB x (8 * i + j)) = _
  unfold outB
  rw [show (8 * i + j) / 8 = i by omega, show (8 * i + j) % 8 = j by omega]
theorem cell_front {w : World} {g n : Nat} {out : List UInt8} {t : TypeId} (h : Blk w g (HC (front out n)) t) (ho : out.length = 32) (hn : n < 32) : ∃ v, w.cell? ⟨g, n, none⟩ = some v :=
  ⟨_, (h.cell n).trans (HC_get_lt _ n (by rw [front_length _ _ ho (by omega)]; exact hn))⟩
end Go.Proofs.Ytanpamcecaoanaa

/-
  Slices of rows of bytes. No program is named here.
-/
namespace Go.Proofs.Ytanpamcecaoanaa
set_option maxRecDepth 100000
open Go.RowKit

/-- a slice of rows that reads as these -/
structure RowR (w : World) (a : Option Addr) (len : Nat) (L : List (List UInt8)) : Prop where
  len_eq : len = L.length
  small : L.length ≤ maxLen
  cells : L = [] ∨ ∃ b off, a = some ⟨b, off, none⟩ ∧ ∀ (i : Nat) (h : i < L.length), ∃ a' l' c', w.cell? ⟨b, off + i, none⟩ = some (.slice a' l' c') ∧ Row8 w a' l' L[i]
theorem RowR.below {w w' : World} {a : Option Addr} {len : Nat} {L : List (List UInt8)} (h : RowR w a len L) (b : Below w.heap.size w w') : RowR w' a len L := by
  refine ⟨h.len_eq, h.small, ?_⟩
  rcases h.cells with h1 | ⟨c, off, rfl, hc⟩
  · exact .inl h1
  · refine .inr ⟨c, off, rfl, fun i hi => ?_⟩
    obtain ⟨a', l', c', h2, h3⟩ := hc i hi
    exact ⟨a', l', c', (b.cell (block_lt_of_cell h2)).trans h2, h3.below b⟩
theorem Row8.lt {w : World} {a : Option Addr} {len : Nat} {bs : List UInt8} (h : Row8 w a len bs) : ∀ x : Addr, a = some x → bs ≠ [] → x.block < w.heap.size := by
  intro x hx hn
  rcases h.cells with h1 | ⟨b, off, rfl, hc⟩
  · exact absurd h1 hn
  · injection hx with hx
    subst hx
    have h0 : 0 < bs.length := List.length_pos_iff.2 hn
    exact block_lt_of_cell (hc 0 h0)
end Go.Proofs.Ytanpamcecaoanaa

/-
  Bytes that a call owns: appended to. No program is named here.
-/
namespace Go.Proofs.Ytanpamcecaoanaa
set_option maxRecDepth 100000
open Go.RowKit

/-- bytes as a list of cells -/
def HL (l : List UInt8) : List Value := l.map fun b => Value.int .u8 (Bt b)
theorem HL_length (l : List UInt8) : (HL l).length = l.length := by simp [HL]
theorem HL_append (l m : List UInt8) : HL (l ++ m) = HL l ++ HL m := by simp [HL]
theorem HL_get (l : List UInt8) (i : Nat) : (HL l)[i]? = (l[i]?).map fun b => Value.int .u8 (Bt b) := by simp [HL]
theorem HL_one (l : List UInt8) : ∀ u ∈ HL l, u.oneCell' = true := by
  intro u hu
  simp only [HL, List.mem_map] at hu
  obtain ⟨b, _, rfl⟩ := hu
  rfl
theorem HC_toList (l : List UInt8) : (HC l).toList = HL l := by simp [HC, HL]

/-- the slice v is the call's own and reads as these bytes -/
def Own8 (w : World) (base : Nat) (e : TypeId) (v : Value) (bs : List UInt8) : Prop := w.ownsRow base e 1 v bs.length (HL bs)

theorem Own8.lit (w : World) (base : Nat) (e : TypeId) (bs : List UInt8) (hb : base ≤ w.heap.size) (hm : bs.length ≤ maxLen) :
    Own8 (w.alloc (.cells (HC bs) e)) base e (.slice (some ⟨w.heap.size, 0, none⟩) bs.length bs.length) bs := by
  have := World.ownsRow_lit (base := base) (e := e) (size := 1) w (HC bs) bs.length hb hm (by rw [HC_size, Nat.mul_one])
  rw [HC_toList] at this
  exact this
theorem Own8.litAt {w : World} {g n base : Nat} {e : TypeId} (bs : List UInt8) (cs : Array Value) (hc : cs = HC bs) (hg : g = w.heap.size) (hn : n = bs.length) (hb : base ≤ w.heap.size) (hm : bs.length ≤ maxLen) :
    Own8 (w.alloc (.cells cs e)) base e (.slice (some ⟨g, 0, none⟩) n n) bs := by
  subst hc hg hn
  exact Own8.lit w base e bs hb hm
theorem Row8.litAt {w : World} {g n : Nat} {e : TypeId} (bs : List UInt8) (cs : Array Value) (hc : cs = HC bs) (hg : g = w.heap.size) (hn : n = bs.length) (hm : bs.length ≤ maxLen) :
    Row8 (w.alloc (.cells cs e)) (some ⟨g, 0, none⟩) n bs := by
  subst hc hg hn
  refine ⟨rfl, hm, .inr ⟨w.heap.size, 0, rfl, fun i hi => ?_⟩⟩
  rw [Nat.zero_add, cell_of_row _ _ i _ _ _ (Blk.new w (HC bs) e)]
  exact HC_get_lt bs i hi
theorem small8 (bs : List UInt8) (h : bs.length ≤ 1000) : bs.length ≤ maxLen := by simp only [maxLen]; omega
theorem Own8.kept {w w' : World} {base : Nat} {e : TypeId} {v : Value} {bs : List UInt8} {r : Option Nat} (h : Own8 w base e v bs) (hg : w.grownBy w' r) (hne : v.ownBlock = none ∨ v.ownBlock ≠ r) : Own8 w' base e v bs := World.ownsRow.kept h hg hne
theorem Own8.below {w w' : World} {base : Nat} {e : TypeId} {v : Value} {bs : List UInt8} (h : Own8 w base e v bs) (b : Below w.heap.size w w') : Own8 w' base e v bs :=
  h.kept (r := none) ⟨b.os, b.tape, b.output, b.size, fun k hk _ => b.block k hk⟩ (by cases v.ownBlock <;> simp)
/-- a byte at least is owned: there is a block -/
theorem Own8.has {w : World} {base : Nat} {e : TypeId} {v : Value} {bs : List UInt8} (h : Own8 w base e v bs) (hn : bs ≠ []) :
    ∃ g cap, v = .slice (some ⟨g, 0, none⟩) bs.length cap ∧ base ≤ g ∧ g < w.heap.size ∧ bs.length ≤ cap ∧ cap ≤ maxLen := by
  rcases h.2 with ⟨_, h0⟩ | ⟨g, cap, cur, rfl, hb, hg, h1, h2, _⟩
  · exact absurd (List.length_eq_zero_iff.1 h0) hn
  · exact ⟨g, cap, rfl, hb, (Array.getElem?_eq_some_iff.1 hg).1, h1, h2⟩
theorem Own8.hasN {w : World} {base : Nat} {e : TypeId} {v : Value} {bs : List UInt8} (h : Own8 w base e v bs) (n : Nat) (hl : n = bs.length) (hn : 0 < n) :
    ∃ g cap, v = .slice (some ⟨g, 0, none⟩) n cap ∧ base ≤ g ∧ g < w.heap.size ∧ n ≤ cap ∧ cap ≤ maxLen := by
  subst hl
  exact h.has (List.length_pos_iff.1 hn)
theorem Own8.row {w : World} {base g cap n : Nat} {e : TypeId} {bs : List UInt8} (h : Own8 w base e (.slice (some ⟨g, 0, none⟩) n cap) bs) (hm : bs.length ≤ maxLen) (hn : n = bs.length) : Row8 w (some ⟨g, 0, none⟩) n bs := by
  refine ⟨hn, hm, .inr ⟨g, 0, rfl, fun i hi => ?_⟩⟩
  have h2 := World.ownsRow.cells h (g := g) rfl i (.int .u8 (Bt bs[i])) (by rw [HL_get, List.getElem?_eq_getElem hi]; rfl)
  have hadd : (⟨g, 0, none⟩ : Addr).add i = ⟨g, 0 + i, none⟩ := by unfold Addr.add; split <;> simp_all
  rwa [hadd] at h2

/-- bytes appended to bytes of the call's own -/
theorem wpList_append8 {P : Program} {w : World} {ops : Array Oper} {rest : List Oper} {o : Oper} {a : Act} {Q : Exit → Act → World → Prop} (hgd : o.guard = none) (s x : Operand) (t : TypeId)
    (ho : o.op = .call { callee := .builtin .append, args := #[s, x], argTypes := #[t, t] })
    (base : Nat) (e : TypeId) (ht : P.underlying t = some (.slice e)) (hinfo : (P.info? e).map (fun i => (i.zero, i.size, i.bytes)) = some (some (.int .u8 0), 1, 1))
    (v : Value) (bs : List UInt8) (hs : a.eval s = v) (hown : Own8 w base e v bs)
    (ad : Option Addr) (m c : Nat) (bs2 : List UInt8) (hx : a.eval x = .slice ad m c) (hr : Row8 w ad m bs2) (hnil : ad = none → c = 0)
    (hlen : bs.length + bs2.length ≤ 140737488355328) (hbase : base ≤ w.heap.size)
    (h : ∀ v' w', Own8 w' base e v' (bs ++ bs2) → w.grownBy w' v.ownBlock → Below base w w' → wpList P ops Q rest (a.put o.dst v') w') : wpList P ops Q (o :: rest) a w := by
  have hbel : ∀ w', w.grownBy w' v.ownBlock → Below base w w' := fun w' hg => (Below.refl base w).grown hg hbase (fun k hk => (World.ownsRow.lt hown k hk).1)
  obtain ⟨i0, hi, hz0, hz1, hz2⟩ := info_parts hinfo
  have hm := hr.len_eq
  subst hm
  cases ad with
  | none =>
    have hc := hnil rfl
    subst hc
    have hb2 : bs2 = [] := by rcases hr.cells with h1 | ⟨b, off, h1, _⟩; exact h1; cases h1
    subst hb2
    refine wpList_append_own_none hgd s x t ho base e i0 1 ht hi v bs.length (HL bs) hs hown hx (h v w ?_ ⟨rfl, rfl, rfl, Nat.le_refl _, fun _ _ _ => rfl⟩ (Below.refl _ _))
    rw [List.append_nil]; exact hown
  | some ad =>
    refine wpList_append_own w hgd s x t ho base e i0 (.int .u8 0) 1 1 ht hi hz0 hz1 hz2 rfl (by decide) v bs.length (HL bs) hs hown ad bs2.length c (HL bs2) hx (by rw [HL_length, Nat.mul_one]) ?_ (HL_one _) (by simp only [maxLen]; omega) (by omega) hbase ?_
    · intro j u hu
      rcases hr.cells with h1 | ⟨b, off, h1, hc⟩
      · subst h1; simp [HL] at hu
      · injection h1 with h1
        subst h1
        rw [HL_get] at hu
        by_cases hj : j < bs2.length
        · rw [List.getElem?_eq_getElem hj] at hu
          injection hu with hu
          have hadd : (⟨b, off, none⟩ : Addr).add j = ⟨b, off + j, none⟩ := by unfold Addr.add; split <;> simp_all
          rw [hadd, hc j hj]; exact congrArg some hu
        · rw [List.getElem?_eq_none (by omega)] at hu; cases hu
    · intro v' w' h1 h2 _
      refine h v' w' ?_ h2 (hbel _ h2)
      unfold Own8
      rw [List.length_append, HL_append]
      exact h1
/-- what own bytes look like from outside -/
theorem Own8.forms {w : World} {base : Nat} {e : TypeId} {v : Value} {bs : List UInt8} (h : Own8 w base e v bs) (hm : bs.length ≤ maxLen) : ∃ a c, v = .slice a bs.length c ∧ Row8 w a bs.length bs ∧ (a = none → c = 0) := by
  by_cases hb : bs = []
  · subst hb
    rcases h.2 with ⟨h1, _⟩ | ⟨g, cap, cur, h1, _⟩
    · exact ⟨none, 0, h1, Row8.nil _ _, fun _ => rfl⟩
    · exact ⟨_, cap, h1, Row8.nil _ _, fun e => by cases e⟩
  · obtain ⟨g, cap, rfl, _, _, _, _⟩ := h.has hb
    exact ⟨_, cap, rfl, h.row hm rfl, fun e => by cases e⟩
theorem Row8.ofBlk {w : World} {g : Nat} {bs : List UInt8} {t : TypeId} (h : Blk w g (HC bs) t) (hs : bs.length ≤ maxLen) (n : Nat) (hn : n = bs.length) : Row8 w (some ⟨g, 0, none⟩) n bs :=
  ⟨hn, hs, .inr ⟨g, 0, rfl, fun i hi => by rw [Nat.zero_add]; exact (h.cell i).trans (HC_get_lt bs i hi)⟩⟩
end Go.Proofs.Ytanpamcecaoanaa

/-
  The zero sum and the bytes' type, as this program numbers them.
-/
namespace Go.Proofs.Ytanpamcecaoanaa
set_option maxRecDepth 100000
open Go.RowKit

/-- thirty-two noughts -/
def zeros32 : Array Value := #[.int .u8 0, .int .u8 0, .int .u8 0, .int .u8 0, .int .u8 0, .int .u8 0, .int .u8 0, .int .u8 0, .int .u8 0, .int .u8 0, .int .u8 0, .int .u8 0, .int .u8 0, .int .u8 0, .int .u8 0, .int .u8 0,
  .int .u8 0, .int .u8 0, .int .u8 0, .int .u8 0, .int .u8 0, .int .u8 0, .int .u8 0, .int .u8 0, .int .u8 0, .int .u8 0, .int .u8 0, .int .u8 0, .int .u8 0, .int .u8 0, .int .u8 0, .int .u8 0]
theorem zeros32_HC : zeros32 = HC (List.replicate 32 0) := by rfl
theorem zone : zeros32.all (·.oneCell') = true := by rw [zeros32_HC]; exact HC_one _
theorem zsize : (Try.prog.info? 30).map (·.size) = some zeros32.size := by kernel_rfl
theorem info8 : (Try.prog.info? 5).map (fun i => (i.zero, i.size, i.bytes)) = some (some (.int .u8 0), 1, 1) := by kernel_rfl
theorem U_or8 (x : BitVec 64) (c : UInt8) : bits .or .u64 (U x) (Bt c) = U (x ||| w8 c) := by rw [← U_w8, U_or]
theorem U_shl8 (x : BitVec 64) : IntKind.u64.wrap (U x * 256) = U (x <<< 8) := U_shl x 8
end Go.Proofs.Ytanpamcecaoanaa

/-
  Laws on a region whose order is open, in forms that the walks use. No program is named here.
-/
namespace Go.Proofs.Ytanpamcecaoanaa
set_option maxRecDepth 100000
open Go.RowKit

/-- reads and quiet calls ahead of one forced tail; the world behind the draw under its own name -/
theorem region_tail {P : Program} {id : Nat} {Q : Exit → Act → World → Prop} {a : Act} {w : World} {l : List Oper} (n : Nat) (hm : P.follows .mixedOrders = true) (hB : Region.lexTailB .any l.toArray n = true)
    (h : wpStill P l.toArray w.drew (fun a' => wpList P l.toArray Q (l.drop n) a' w.drew) (l.take n) a) : (Code.region id l.toArray true).wp P Q a w :=
  wp_region_still_tail n hm hB h

/-- the world under a name of its own -/
theorem wp_gen {P : Program} {c : Code} {Q : Exit → Act → World → Prop} {a : Act} {w : World} (h : ∀ w1, w1 = w → c.wp P Q a w1) : c.wp P Q a w := h w rfl
end Go.Proofs.Ytanpamcecaoanaa

/-
  A region whose order is open, where each operation lets memory only grow (or turn by a relation that one names): whatever the order, each operation meets what it leans on. No program is named here.
-/
namespace Go.Proofs.Ytanpamcecaoanaa
set_option maxRecDepth 100000
open Go.RowKit

section
variable {P : Program}

/-- an operation's value, as its slot keeps it -/
def keeps (d : Option Tmp) (v : Value) : Value := match d with | none => undef | some _ => v
theorem put_keeps (a : Act) (d : Option Tmp) (v : Value) : a.put d (keeps d v) = a.put d v := by cases d <;> rfl

/-- what an operation comes to, in this world: a value, in a world that R allows, of which F holds -/
def opRuns (P : Program) (ops : Array Oper) (R : World → World → Prop) (o : Oper) (a : Act) (w : World) (F : Value → World → Prop) : Prop :=
  if Region.wanted o (yielded ops a.tmps) then
    match (execOp a.eval o).run P w with
    | .ok (.value v) w' => R w w' ∧ F (keeps o.dst v) w'
    | .ok .skip w' => R w w' ∧ F undef w'
    | .ok (.enter f args) w' => Calls P f args w' fun e w'' => ∃ v, e = .returned v ∧ R w w'' ∧ F (keeps o.dst v) w''
    | .ok (.row r args) w' => Rows P r args w' fun v w'' => R w w'' ∧ F (keeps o.dst v) w''
    | _ => False
  else F undef w

/-- the operations' values put into their slots -/
def putAll (ops : Array Oper) (vals : Nat → Value) : List Nat → Act → Act
  | [], a => a
  | j :: r, a => putAll ops vals r (a.put ((ops[j]?).bind (·.dst)) (vals j))

def factsOf (Φ : Nat → (Nat → Value) → World → Prop) (vals : Nat → Value) (w : World) : List Nat → Prop
  | [] => True
  | j :: r => Φ j vals w ∧ factsOf Φ vals w r

theorem factsOf_iff {Φ : Nat → (Nat → Value) → World → Prop} {vals : Nat → Value} {w : World} : ∀ {l : List Nat}, factsOf Φ vals w l ↔ ∀ j ∈ l, Φ j vals w
  | [] => by simp [factsOf]
  | j :: r => by simp [factsOf, factsOf_iff (l := r)]

/-- of the values those alone that an operation waits for, and its own -/
def sel (ks : List Nat) (vals : Nat → Value) : Nat → Value := fun k => if ks.contains k then vals k else undef
/-- what holds of operation j's value -/
def phi (L : List ((Nat → Value) → World → Prop)) (D : List (List Nat)) (j : Nat) (vals : Nat → Value) (w : World) : Prop :=
  (L.getD j fun _ _ => True) (sel (j :: D.getD j []) vals) w
theorem phi_local {L : List ((Nat → Value) → World → Prop)} {D : List (List Nat)} {j : Nat} {vals vals' : Nat → Value} {w : World} (h : ∀ k, k = j ∨ k ∈ D.getD j [] → vals k = vals' k) (hp : phi L D j vals w) : phi L D j vals' w := by
  have e : sel (j :: D.getD j []) vals = sel (j :: D.getD j []) vals' := by
    funext k
    unfold sel
    by_cases hc : (j :: D.getD j []).contains k = true
    · rw [if_pos hc, if_pos hc]
      refine h k ?_
      simpa using hc
    · rw [if_neg hc, if_neg hc]
  unfold phi at *
  rw [← e]; exact hp

/-- what is to be shown of each operation -/
def obsFrom (P : Program) (ops : Array Oper) (R : World → World → Prop) (Φ : Nat → (Nat → Value) → World → Prop) (D : List (List Nat)) (a0 : Act) (w0 : World) : Nat → List Oper → Prop
  | _, [] => True
  | i, o :: r => (∀ vals w, R w0 w → factsOf Φ vals w (D.getD i []) →
      opRuns P ops R o (putAll ops vals (D.getD i []) a0) w fun v w' => Φ i (fun j => if j = i then v else vals j) w') ∧ obsFrom P ops R Φ D a0 w0 (i + 1) r

def dstOf (l : List Oper) (i : Nat) : Option Tmp := (l[i]?).bind (·.dst)
/-- the table of what an operation waits for fits, and no two operations write one slot, nor one what another one may still read -/
def okTab (l : List Oper) (D : List (List Nat)) : Bool :=
  (List.range l.length).all fun i =>
    match l[i]? with
    | none => false
    | some o =>
      ((D.getD i []).all fun j => o.after.toList.any (fun e => Region.binds .any e && e.on == j) || o.after.toList.any (fun e => Region.binds .any e && (D.getD e.on []).contains j)) &&
      (o.after.toList.all fun e => !Region.binds .any e || decide (e.on < i)) &&
      ((D.getD i []).all fun j => decide (j < i)) &&
      ((List.range l.length).all fun j => j == i ||
        (match dstOf l j with
         | none => true
         | some t => (dstOf l i != some t) && (!(o.looksAt l.toArray).contains t || (D.getD i []).contains j || (D.getD j []).contains i)))

theorem put_get (a : Act) (d : Option Tmp) (v : Value) (t : Tmp) (h : d ≠ some t) : (a.put d v).tmps[t]? = a.tmps[t]? := by
  cases d with
  | none => rfl
  | some d =>
    show (a.tmps.setIfInBounds d v)[t]? = _
    rw [Array.getElem?_setIfInBounds_ne (fun e => h (by rw [e]))]
theorem put_size (a : Act) (d : Option Tmp) (v : Value) : (a.put d v).tmps.size = a.tmps.size := by cases d <;> simp [Act.put]
theorem put_same (a : Act) (t : Tmp) (v : Value) (h : t < a.tmps.size) : (a.put (some t) v).tmps[t]? = some v := by
  show (a.tmps.setIfInBounds t v)[t]? = _
  simp [h]
theorem put_def (a : Act) (d : Option Tmp) (v : Value) : (a.put d v).defers = a.defers := by cases d <;> rfl

theorem putAll_def (ops : Array Oper) (vals : Nat → Value) : ∀ (l : List Nat) (a : Act), (putAll ops vals l a).defers = a.defers
  | [], _ => rfl
  | j :: r, a => by rw [putAll, putAll_def ops vals r, put_def]
theorem putAll_size (ops : Array Oper) (vals : Nat → Value) : ∀ (l : List Nat) (a : Act), (putAll ops vals l a).tmps.size = a.tmps.size
  | [], _ => rfl
  | j :: r, a => by rw [putAll, putAll_size ops vals r, put_size]
theorem putAll_none (ops : Array Oper) (vals : Nat → Value) (t : Tmp) : ∀ (l : List Nat) (a : Act), (∀ j ∈ l, (ops[j]?).bind (·.dst) ≠ some t) → (putAll ops vals l a).tmps[t]? = a.tmps[t]?
  | [], _, _ => rfl
  | j :: r, a, h => by rw [putAll, putAll_none ops vals t r _ (fun k hk => h k (by simp [hk])), put_get _ _ _ _ (h j (by simp))]
theorem putAll_some (ops : Array Oper) (vals : Nat → Value) (t : Tmp) (i : Nat) (hi : (ops[i]?).bind (·.dst) = some t) (hu : ∀ j, (ops[j]?).bind (·.dst) = some t → j = i) :
    ∀ (l : List Nat) (a : Act), t < a.tmps.size → i ∈ l → (putAll ops vals l a).tmps[t]? = some (vals i)
  | [], _, _, h => by cases h
  | j :: r, a, ht, h => by
    rw [putAll]
    by_cases hr : i ∈ r
    · exact putAll_some ops vals t i hi hu r _ (by rw [put_size]; exact ht) hr
    · have hji : j = i := by rcases List.mem_cons.1 h with h1 | h1; exact h1.symm; exact absurd h1 hr
      subst hji
      rw [putAll_none ops vals t r _ (fun k hk e => hr (hu k e ▸ hk)), hi, put_same _ _ _ ht]

theorem Act.ext' {a b : Act} (h : a.tmps = b.tmps) (k : a.defers = b.defers) : a = b := by cases a; cases b; simp_all

/-- where a run of the region stands -/
structure Stands (l : List Oper) (R : World → World → Prop) (Φ : Nat → (Nat → Value) → World → Prop) (D : List (List Nat)) (a0 : Act) (w0 : World) (listed : Array Bool) (a : Act) (w : World) (vals : Nat → Value) : Prop where
  size : listed.size = l.length
  reach : R w0 w
  facts : ∀ j, listed.getD j false = true → Φ j vals w
  closed : ∀ i, listed.getD i false = true → ∀ j ∈ D.getD i [], listed.getD j false = true
  tsize : a.tmps.size = a0.tmps.size
  defs : a.defers = a0.defers
  old : ∀ t, (∀ j, listed.getD j false = true → dstOf l j ≠ some t) → a.tmps[t]? = a0.tmps[t]?
  new : ∀ j t, listed.getD j false = true → dstOf l j = some t → t < a0.tmps.size → a.tmps[t]? = some (vals j)

theorem obs_get {ops : Array Oper} {R : World → World → Prop} {Φ : Nat → (Nat → Value) → World → Prop} {D : List (List Nat)} {a0 : Act} {w0 : World} : ∀ {l : List Oper} {k i : Nat} {o : Oper}, obsFrom P ops R Φ D a0 w0 k l → l[i]? = some o →
    ∀ vals w, R w0 w → factsOf Φ vals w (D.getD (k + i) []) → opRuns P ops R o (putAll ops vals (D.getD (k + i) []) a0) w fun v w' => Φ (k + i) (fun j => if j = k + i then v else vals j) w'
  | [], _, _, _, _, h => by simp at h
  | o' :: r, k, 0, o, h, ho => by
    simp only [List.getElem?_cons_zero, Option.some.injEq] at ho
    subst ho
    exact h.1
  | o' :: r, k, i + 1, o, h, ho => by
    have := obs_get (k := k + 1) (i := i) h.2 (by simpa using ho)
    rw [show k + 1 + i = k + (i + 1) by omega] at this
    exact this

structure Fits (l : List Oper) (D : List (List Nat)) (i : Nat) (o : Oper) : Prop where
  dep : ∀ j ∈ D.getD i [], (∃ e ∈ o.after, Region.binds .any e = true ∧ e.on = j) ∨ (∃ e ∈ o.after, Region.binds .any e = true ∧ j ∈ D.getD e.on [])
  aft : ∀ e ∈ o.after, Region.binds .any e = true → e.on < i
  lt : ∀ j ∈ D.getD i [], j < i
  one : ∀ j t, j ≠ i → dstOf l j = some t → dstOf l i ≠ some t
  clean : ∀ j t, j ≠ i → dstOf l j = some t → t ∈ o.looksAt l.toArray → j ∈ D.getD i [] ∨ i ∈ D.getD j []

theorem dstOf_lt {l : List Oper} {j : Nat} {t : Tmp} (h : dstOf l j = some t) : j < l.length := by
  unfold dstOf at h
  rcases Nat.lt_or_ge j l.length with h1 | h1
  · exact h1
  · rw [List.getElem?_eq_none h1] at h; cases h

theorem okTab_fits {l : List Oper} {D : List (List Nat)} (h : okTab l D = true) {i : Nat} {o : Oper} (ho : l[i]? = some o) : Fits l D i o := by
  have hi : i < l.length := (List.getElem?_eq_some_iff.1 ho).1
  have h1 := List.all_eq_true.1 h i (List.mem_range.2 hi)
  rw [ho] at h1
  simp only [Bool.and_eq_true, List.all_eq_true, decide_eq_true_eq, List.mem_range] at h1
  obtain ⟨⟨⟨h2, h3⟩, h4⟩, h5⟩ := h1
  refine ⟨fun j hj => ?_, fun e he hb => by have h6 := h3 e (by simpa using he); rw [hb] at h6; simpa using h6, h4, fun j t hji hd => ?_, fun j t hji hd ht => ?_⟩
  · have := h2 j hj
    simp only [Bool.or_eq_true, List.any_eq_true, Bool.and_eq_true, beq_iff_eq, List.contains_iff_mem] at this
    rcases this with ⟨e, he, hb, h⟩ | ⟨e, he, hb, h⟩
    · exact .inl ⟨e, by simpa using he, hb, h⟩
    · exact .inr ⟨e, by simpa using he, hb, h⟩
  · have := h5 j (dstOf_lt hd)
    rw [hd] at this
    simp only [Bool.or_eq_true, beq_iff_eq, Bool.and_eq_true, bne_iff_ne] at this
    rcases this with h | h
    · exact absurd h hji
    · exact h.1
  · have := h5 j (dstOf_lt hd)
    rw [hd] at this
    simp only [Bool.or_eq_true, beq_iff_eq, Bool.and_eq_true, bne_iff_ne, Bool.not_eq_true', List.contains_iff_mem] at this
    rcases this with h | ⟨_, (h | h) | h⟩
    · exact absurd h hji
    · exfalso
      rw [← Bool.not_eq_true, List.contains_iff_mem] at h
      exact h ht
    · exact .inl h
    · exact .inr h

section
variable {l : List Oper} {R : World → World → Prop} {L : List ((Nat → Value) → World → Prop)} {D : List (List Nat)} {a0 : Act} {w0 : World}

theorem dst_arr (i : Nat) : (l.toArray[i]?).bind (·.dst) = dstOf l i := by unfold dstOf; simp

theorem uniq (hall : ∀ (i : Nat) (o : Oper), l[i]? = some o → Fits l D i o) {j k : Nat} {t : Tmp} (hj : dstOf l j = some t) (hk : dstOf l k = some t) : j = k := by
  apply Decidable.byContradiction
  intro hne
  obtain ⟨ok, hok⟩ : ∃ ok, l[k]? = some ok := ⟨_, List.getElem?_eq_getElem (dstOf_lt hk)⟩
  exact (hall k ok hok).one j t hne hj hk

/-- an operation that is ready reads in its state what it reads in the state of those that it waits for -/
theorem Stands.look {listed : Array Bool} {a : Act} {w : World} {vals : Nat → Value} {i : Nat} {o : Oper} (S : Stands l R (phi L D) D a0 w0 listed a w vals)
    (hall : ∀ (i : Nat) (o : Oper), l[i]? = some o → Fits l D i o) (ho : l[i]? = some o)
    (hD : ∀ j ∈ D.getD i [], listed.getD j false = true) (hi : listed.getD i false = false) :
    ∀ t ∈ o.looksAt l.toArray, a.tmps[t]? = (putAll l.toArray vals (D.getD i []) a0).tmps[t]? := by
  intro t ht
  have F := hall i o ho
  have plain : ∀ j, dstOf l j = some t → listed.getD j false = false → j ∉ D.getD i [] → a.tmps[t]? = (putAll l.toArray vals (D.getD i []) a0).tmps[t]? := by
    intro j hj hl hn
    rw [S.old t (fun k hk hd => by rw [uniq hall hd hj, hl] at hk; cases hk), putAll_none]
    intro k hk hd
    rw [dst_arr] at hd
    exact hn (uniq hall hd hj ▸ hk)
  by_cases hw : ∃ j, dstOf l j = some t
  · obtain ⟨j, hj⟩ := hw
    by_cases hji : j = i
    · subst hji
      exact plain j hj hi (fun h => Nat.lt_irrefl _ (F.lt j h))
    · rcases F.clean j t hji hj ht with h | h
      · by_cases hsz : t < a0.tmps.size
        · rw [S.new j t (hD j h) hj hsz, putAll_some _ _ t j (by rw [dst_arr]; exact hj) (fun k hk => by rw [dst_arr] at hk; exact uniq hall hk hj) _ _ hsz h]
        · rw [Array.getElem?_eq_none (Nat.le_of_not_lt (by rw [S.tsize]; exact hsz)), Array.getElem?_eq_none (Nat.le_of_not_lt (by rw [putAll_size]; exact hsz))]
      · refine plain j hj ?_ (fun hd => ?_)
        · rcases hb : listed.getD j false with _ | _
          · rfl
          · rw [S.closed j hb i h] at hi; cases hi
        · obtain ⟨oj, hoj⟩ : ∃ oj, l[j]? = some oj := ⟨_, List.getElem?_eq_getElem (dstOf_lt hj)⟩
          have h1 := (hall j oj hoj).lt i h
          have h2 := F.lt j hd
          omega
  · rw [S.old t (fun k _ hd => hw ⟨k, hd⟩), putAll_none]
    intro k _ hd
    rw [dst_arr] at hd
    exact hw ⟨k, hd⟩

theorem eval_same {a b : Act} {o : Oper} {ops : Array Oper} (h : ∀ t ∈ o.looksAt ops, a.tmps[t]? = b.tmps[t]?) : ∀ x ∈ o.op.operands, a.eval x = b.eval x := by
  intro x hx
  cases x with
  | tmp t =>
    have := h t (List.mem_append_left _ (List.mem_filterMap.2 ⟨.tmp t, by simpa using hx, rfl⟩))
    simp only [Act.eval, Array.getD_eq_getD_getElem?, this]
  | _ => rfl
theorem wanted_same {a b : Act} {o : Oper} {ops : Array Oper} (h : ∀ t ∈ o.looksAt ops, a.tmps[t]? = b.tmps[t]?) : Region.wanted o (yielded ops a.tmps) = Region.wanted o (yielded ops b.tmps) := by
  unfold Region.wanted
  cases hg : o.guard with
  | none => rfl
  | some g =>
    obtain ⟨j, want⟩ := g
    have e : yielded ops a.tmps j = yielded ops b.tmps j := by
      unfold yielded
      cases hd : (ops[j]?).bind (·.dst) with
      | none => simp
      | some d =>
        have := h d (List.mem_append_right _ (by rw [hg]; simp [hd]))
        simp [this]
    simp only [e]
theorem opRuns_same {ops : Array Oper} {o : Oper} {a b : Act} {w : World} {F : Value → World → Prop} (hs : ∀ cs bb, o.op ≠ .select cs bb) (h : ∀ t ∈ o.looksAt ops, a.tmps[t]? = b.tmps[t]?) (hr : opRuns P ops R o b w F) : opRuns P ops R o a w F := by
  unfold opRuns at *
  rw [wanted_same h, execOp_congr o hs (eval_same h)]
  exact hr

theorem filter_fewer {p q : Nat → Bool} (hpq : ∀ j, q j = true → p j = true) {i : Nat} (hp : p i = true) (hq : q i = false) : ∀ (l : List Nat), i ∈ l → (l.filter q).length < (l.filter p).length
  | [], h => by cases h
  | j :: r, h => by
    have hle : ∀ (r : List Nat), (r.filter q).length ≤ (r.filter p).length := by
      intro r
      induction r with
      | nil => simp
      | cons k r ih =>
        rcases hk : q k with _ | _
        · rw [List.filter_cons_of_neg (by rw [hk]; decide)]
          rcases hk2 : p k with _ | _
          · rw [List.filter_cons_of_neg (by rw [hk2]; decide)]; exact ih
          · rw [List.filter_cons_of_pos hk2, List.length_cons]; omega
        · rw [List.filter_cons_of_pos hk, List.filter_cons_of_pos (hpq k hk), List.length_cons, List.length_cons]; omega
    rcases List.mem_cons.1 h with rfl | h
    · rw [List.filter_cons_of_neg (by rw [hq]; decide), List.filter_cons_of_pos hp, List.length_cons]
      have := hle r; omega
    · have ih := filter_fewer hpq hp hq r h
      rcases hk : q j with _ | _
      · rw [List.filter_cons_of_neg (by rw [hk]; decide)]
        rcases hk2 : p j with _ | _
        · rw [List.filter_cons_of_neg (by rw [hk2]; decide)]; exact ih
        · rw [List.filter_cons_of_pos hk2, List.length_cons]; omega
      · rw [List.filter_cons_of_pos hk, List.filter_cons_of_pos (hpq j hk), List.length_cons, List.length_cons]; omega

/-- one operation more -/
theorem Stands.step {listed : Array Bool} {a : Act} {w : World} {vals : Nat → Value} {i : Nat} {o : Oper} (S : Stands l R (phi L D) D a0 w0 listed a w vals)
    (hall : ∀ (i : Nat) (o : Oper), l[i]? = some o → Fits l D i o) (ho : l[i]? = some o)
    (hD : ∀ j ∈ D.getD i [], listed.getD j false = true) (hi : listed.getD i false = false)
    (hR : ∀ {x y z}, R x y → R y z → R x z) (hst : ∀ φ ∈ L, ∀ vals w w', R w w' → φ vals w → φ vals w')
    (v : Value) (w' : World) (hw : R w w') (hv : phi L D i (fun j => if j = i then v else vals j) w') :
    Stands l R (phi L D) D a0 w0 (listed.setIfInBounds i true) (a.put o.dst v) w' (fun j => if j = i then v else vals j) := by
  have hil : i < listed.size := by rw [S.size]; exact (List.getElem?_eq_some_iff.1 ho).1
  have hset : ∀ j, (listed.setIfInBounds i true).getD j false = true → j = i ∨ (j ≠ i ∧ listed.getD j false = true) := by
    intro j hj
    by_cases hji : j = i
    · exact .inl hji
    · rw [getD_set_ne false (Ne.symm hji)] at hj; exact .inr ⟨hji, hj⟩
  have hdi : dstOf l i = o.dst := by unfold dstOf; rw [ho]; rfl
  refine ⟨by simp [S.size], hR S.reach hw, ?_, ?_, by rw [put_size, S.tsize], by rw [put_def, S.defs], ?_, ?_⟩
  · intro j hj
    rcases hset j hj with rfl | ⟨hji, hj2⟩
    · exact hv
    · have h1 := S.facts j hj2
      have h2 : phi L D j (fun j => if j = i then v else vals j) w := by
        refine phi_local (fun k hk => ?_) h1
        have hki : k ≠ i := by
          rintro rfl
          rcases hk with h | h
          · exact hji h.symm
          · have := S.closed j hj2 _ h; rw [hi] at this; cases this
        rw [if_neg hki]
      unfold phi at *
      by_cases hjL : j < L.length
      · rw [List.getD_eq_getElem?_getD, List.getElem?_eq_getElem hjL] at h2 ⊢
        exact hst _ (List.getElem_mem hjL) _ _ _ hw h2
      · rw [List.getD_eq_getElem?_getD, List.getElem?_eq_none (Nat.le_of_not_lt hjL)]
        trivial
  · intro j hj k hk
    rcases hset j hj with rfl | ⟨hji, hj⟩
    · exact getD_set_true (hD k hk)
    · exact getD_set_true (S.closed j hj k hk)
  · intro t ht
    have hti : o.dst ≠ some t := by rw [← hdi]; exact ht i (by simp [hil])
    rw [put_get _ _ _ _ hti]
    exact S.old t (fun j hj => ht j (getD_set_true hj))
  · intro j t hj hd hsz
    rcases hset j hj with rfl | ⟨hji, hj⟩
    · rw [hdi] at hd
      rw [hd, put_same _ _ _ (by rw [S.tsize]; exact hsz), if_pos rfl]
    · have hne : o.dst ≠ some t := by rw [← hdi]; exact fun e => hji (uniq hall hd e)
      rw [put_get _ _ _ _ hne, S.new j t hj hd hsz, if_neg hji]

/-- from where a run of the region stands, whatever order follows -/
theorem any_of_stands {Q : Exit → Act → World → Prop} (hs : Region.noSelect l.toArray = true) (hall : ∀ (i : Nat) (o : Oper), l[i]? = some o → Fits l D i o)
    (hRr : ∀ x, R x x) (hR : ∀ {x y z}, R x y → R y z → R x z) (hst : ∀ φ ∈ L, ∀ vals w w', R w w' → φ vals w → φ vals w')
    (hobs : obsFrom P l.toArray R (phi L D) D a0 w0 0 l)
    (hend : ∀ vals w, R w0 w → factsOf (phi L D) vals w (List.range l.length) → Q .normal (putAll l.toArray vals (List.range l.length) a0) w) :
    ∀ (fuel : Nat) (listed : Array Bool) (a : Act) (w : World) (vals : Nat → Value), Stands l R (phi L D) D a0 w0 listed a w vals → ((List.range l.length).filter fun i => !listed.getD i false).length ≤ fuel →
      wpAny P .any l.toArray Q fuel listed a w := by
  have full : ∀ (listed : Array Bool) (a : Act) (w : World) (vals : Nat → Value), Stands l R (phi L D) D a0 w0 listed a w vals → (∀ i, i < l.length → listed.getD i false = true) → Q .normal a w := by
    intro listed a w vals S hl
    have e : a = putAll l.toArray vals (List.range l.length) a0 := by
      refine Act.ext' (Array.ext_getElem? fun t => ?_) (by rw [S.defs, putAll_def])
      by_cases hw : ∃ j, dstOf l j = some t
      · obtain ⟨j, hj⟩ := hw
        by_cases hsz : t < a0.tmps.size
        · rw [S.new j t (hl j (dstOf_lt hj)) hj hsz, putAll_some _ _ t j (by rw [dst_arr]; exact hj) (fun k hk => by rw [dst_arr] at hk; exact uniq hall hk hj) _ _ hsz (List.mem_range.2 (dstOf_lt hj))]
        · rw [Array.getElem?_eq_none (Nat.le_of_not_lt (by rw [S.tsize]; exact hsz)), Array.getElem?_eq_none (Nat.le_of_not_lt (by rw [putAll_size]; exact hsz))]
      · rw [S.old t (fun j _ hd => hw ⟨j, hd⟩), putAll_none]
        intro k _ hd
        rw [dst_arr] at hd
        exact hw ⟨k, hd⟩
    rw [e]
    exact hend vals w S.reach (factsOf_iff.2 fun j hj => S.facts j (hl j (List.mem_range.1 hj)))
  have least : ∀ (listed : Array Bool), Region.ready .any l.toArray listed = [] → listed.size = l.length → ∀ i, i < l.length → listed.getD i false = true := by
    intro listed hr hsz i
    induction i using Nat.strongRecOn with
    | ind i ih =>
      intro hi
      rcases hb : listed.getD i false with _ | _
      · exfalso
        have hrd : i ∈ Region.ready .any l.toArray listed := by
          rw [mem_ready]
          refine ⟨?_, l[i], by simp [hi], fun e he hbe => ?_⟩
          · have : i < listed.size := by omega
            simp [this] at hb ⊢; exact hb
          · have h1 := (hall i l[i] (List.getElem?_eq_getElem hi)).aft e he hbe
            exact ih e.on h1 (by omega)
        rw [hr] at hrd; cases hrd
      · rfl
  intro fuel
  induction fuel with
  | zero =>
    intro listed a w vals S hf
    have hl : ∀ i, i < l.length → listed.getD i false = true := by
      intro i hi
      rcases hb : listed.getD i false with _ | _
      · have : i ∈ (List.range l.length).filter fun i => !listed.getD i false := List.mem_filter.2 ⟨List.mem_range.2 hi, by rw [hb]; rfl⟩
        rw [List.length_eq_zero_iff.1 (Nat.le_zero.1 hf)] at this; cases this
      · rfl
    refine ⟨?_, full listed a w vals S hl⟩
    apply List.eq_nil_iff_forall_not_mem.2
    intro i hi
    obtain ⟨h0, o, ho, _⟩ := mem_ready.1 hi
    have hil : i < l.length := by have := (Array.getElem?_eq_some_iff.1 ho).1; simpa using this
    have h1 := hl i hil
    have : i < listed.size := by rw [S.size]; exact hil
    simp [this] at h0 h1
    rw [h0] at h1; cases h1
  | succ fuel ih =>
    intro listed a w vals S hf
    refine ⟨fun hr => full listed a w vals S (least listed hr S.size), fun i hi => ?_⟩
    obtain ⟨h0, o, ho, haft⟩ := mem_ready.1 hi
    have hol : l[i]? = some o := by simpa using ho
    have hil : i < l.length := (List.getElem?_eq_some_iff.1 hol).1
    have hif : listed.getD i false = false := by
      have : i < listed.size := by rw [S.size]; exact hil
      simp [this] at h0 ⊢; exact h0
    have F := hall i o hol
    have hD : ∀ j ∈ D.getD i [], listed.getD j false = true := by
      intro j hj
      rcases F.dep j hj with ⟨e, he, hb, rfl⟩ | ⟨e, he, hb, h⟩
      · exact haft e he hb
      · exact S.closed e.on (haft e he hb) j h
    have hrun := obs_get hobs hol vals w S.reach (by rw [Nat.zero_add]; exact factsOf_iff.2 fun j hj => S.facts j (hD j hj))
    rw [Nat.zero_add] at hrun
    have hrun2 := opRuns_same (fun cs b => Region.noSelect_spec hs i o cs b ho) (S.look hall hol hD hif) hrun
    have hcount : ((List.range l.length).filter fun j => !(listed.setIfInBounds i true).getD j false).length ≤ fuel := by
      have := filter_fewer (p := fun j => !listed.getD j false) (q := fun j => !(listed.setIfInBounds i true).getD j false) (fun j hj => by
        rcases hb : listed.getD j false with _ | _
        · rfl
        · rw [getD_set_true hb] at hj; cases hj) (i := i) (by rw [hif]; rfl) (by
          have : i < listed.size := by rw [S.size]; exact hil
          simp [this]) (List.range l.length) (List.mem_range.2 hil)
      omega
    have next : ∀ v w', R w w' → phi L D i (fun j => if j = i then v else vals j) w' → wpAny P .any l.toArray Q fuel (listed.setIfInBounds i true) (a.put o.dst v) w' :=
      fun v w' hw hv => ih _ _ _ _ (S.step hall hol hD hif hR hst v w' hw hv) hcount
    unfold wpOp
    rw [ho]
    unfold opRuns at hrun2
    by_cases hwd : Region.wanted o (yielded l.toArray a.tmps) = true
    · simp only [hwd, if_true] at hrun2 ⊢
      refine .inl ?_
      unfold Oper.wp
      generalize (execOp a.eval o).run P w = r at hrun2 ⊢
      cases r with
      | ok n w' =>
        cases n <;> simp only [Oper.upon] at hrun2 ⊢
        case value v => rw [← put_keeps]; exact next _ w' hrun2.1 hrun2.2
        case skip => exact next undef w' hrun2.1 hrun2.2
        case row r args =>
          refine hrun2.mono fun v w'' he => ?_
          rw [← put_keeps]; exact next _ w'' he.1 he.2
        case enter f args =>
          refine hrun2.mono fun e w'' he => ?_
          obtain ⟨v, rfl, h1, h2⟩ := he
          show wpAny P .any l.toArray Q fuel (listed.setIfInBounds i true) (a.put o.dst v) w''
          rw [← put_keeps]; exact next _ w'' h1 h2
      | halt x w' => simp only at hrun2
    · simp only [hwd, Bool.false_eq_true, if_false] at hrun2 ⊢
      exact next undef w (hRr w) hrun2

theorem none_listed (n j : Nat) : (Array.replicate n false).getD j false = false := by
  by_cases h : j < n <;> simp [h]
/-- THE LAW: a region whose order is open -/
theorem region_ext {id : Nat} {Q : Exit → Act → World → Prop} (R : World → World → Prop) (L : List ((Nat → Value) → World → Prop)) (D : List (List Nat)) (hm : P.follows .mixedOrders = true)
    (hs : Region.noSelect l.toArray = true) (hok : okTab l D = true) (hRr : ∀ x, R x x) (hR : ∀ {x y z}, R x y → R y z → R x z) (hst : ∀ φ ∈ L, ∀ vals w w', R w w' → φ vals w → φ vals w')
    (hobs : obsFrom P l.toArray R (phi L D) D a0 w0.drew 0 l)
    (hend : ∀ vals w, R w0.drew w → factsOf (phi L D) vals w (List.range l.length) → Q .normal (putAll l.toArray vals (List.range l.length) a0) w) :
    (Code.region id l.toArray true).wp P Q a0 w0 := by
  refine wp_region_any hm (any_of_stands (vals := fun _ => undef) hs (fun i o ho => okTab_fits hok ho) hRr hR hst hobs hend _ _ _ _ ⟨by simp, hRr _, ?_, ?_, rfl, rfl, fun _ _ => rfl, ?_⟩ ?_)
  · intro j hj; rw [none_listed] at hj; cases hj
  · intro j hj; rw [none_listed] at hj; cases hj
  · intro j t hj; rw [none_listed] at hj; cases hj
  · refine Nat.le_trans (List.length_filter_le _ _) ?_
    simp

/-- the values put into their slots, by the slots' list -/
def putD (ds : List (Option Tmp)) (vals : Nat → Value) : List Nat → Act → Act
  | [], a => a
  | j :: r, a => putD ds vals r (a.put (ds.getD j none) (vals j))
theorem putD_eq {ds : List (Option Tmp)} (hd : l.map (·.dst) = ds) (vals : Nat → Value) : ∀ (js : List Nat) (a : Act), putAll l.toArray vals js a = putD ds vals js a
  | [], _ => rfl
  | j :: r, a => by
    subst hd
    rw [putAll, putD, putD_eq rfl vals r]
    congr 2
    simp [List.getD_eq_getElem?_getD, List.getElem?_map]
    cases l[j]? <;> rfl
def backD (d : Option Tmp) (a : Act) : Value := match d with | none => undef | some t => a.tmps.getD t undef
theorem back_put (d : Option Tmp) (a : Act) (v : Value) (h : ∀ t, d = some t → t < a.tmps.size) : backD d (a.put d v) = keeps d v := by
  cases d with
  | none => rfl
  | some t =>
    have := put_same a t v (h t rfl)
    simp only [backD, keeps, Array.getD_eq_getD_getElem?, this, Option.getD_some]
/-- where an operation leads that is walked by itself -/
def Ends (R : World → World → Prop) (ds : List Deferred) (d : Option Tmp) (F : Value → World → Prop) (w : World) : Exit → Act → World → Prop :=
  fun e a' w' => e = .normal ∧ a'.defers = ds ∧ R w w' ∧ F (backD d a') w'
theorem opRuns_of_list {ops : Array Oper} {R : World → World → Prop} {o : Oper} {b : Act} {w : World} {F : Value → World → Prop} (hd : ∀ t, o.dst = some t → t < b.tmps.size)
    (h : wpList P ops (Ends R b.defers o.dst F w) [o] b w) : opRuns P ops R o b w F := by
  unfold opRuns
  unfold wpList at h
  by_cases hw : Region.wanted o (yielded ops b.tmps) = true
  · simp only [hw, if_true] at h ⊢
    rcases h with h | ⟨_, a, w', h, _⟩
    · unfold Oper.wp at h
      generalize (execOp b.eval o).run P w = r at h ⊢
      have key : ∀ v w', wpList P ops (Ends R b.defers o.dst F w) [] (b.put o.dst v) w' → R w w' ∧ F (keeps o.dst v) w' := by
        intro v w' h
        obtain ⟨_, _, h1, h2⟩ := h
        rw [back_put _ _ _ hd] at h2
        exact ⟨h1, h2⟩
      cases r with
      | ok n w' =>
        cases n <;> simp only [Oper.upon] at h ⊢
        case value v => exact key v w' h
        case skip =>
          have := key undef w' h
          have e : keeps o.dst undef = undef := by cases o.dst <;> rfl
          rw [e] at this; exact this
        case row r args => exact h.mono fun v w'' he => key v w'' he
        case enter f args =>
          refine h.mono fun e w'' he => ?_
          cases e with
          | returned v => exact ⟨v, rfl, key v w'' he⟩
          | panicked c => exact absurd he.1 (by simp)
          | outgrown => obtain ⟨a, w, h, _⟩ := he; cases h
        case defer d =>
          obtain ⟨_, h, _⟩ := h
          exfalso
          rw [put_def] at h
          exact absurd (congrArg List.length h) (by simp)
      | halt x w' =>
        cases x <;> simp only [Oper.upon] at h ⊢
        case panic v => exact absurd h.1 (by simp)
    · cases h
  · simp only [hw, Bool.false_eq_true, if_false] at h ⊢
    obtain ⟨_, _, h1, h2⟩ := h
    rw [back_put _ _ _ hd] at h2
    have e : keeps o.dst undef = undef := by cases o.dst <;> rfl
    rw [e] at h2; exact h2

/-- the facts that operation i may lean on -/
def leans (L : List ((Nat → Value) → World → Prop)) (D : List (List Nat)) (vals : Nat → Value) (w : World) : List Nat → Prop := factsOf (phi L D) vals w
/-- what is to be walked of each operation -/
def walksFrom (P : Program) (ops : Array Oper) (ds : List (Option Tmp)) (R : World → World → Prop) (L : List ((Nat → Value) → World → Prop)) (D : List (List Nat)) (a0 : Act) (w0 : World) : Nat → List Oper → Prop
  | _, [] => True
  | i, o :: r => (∀ vals w, R w0 w → leans L D vals w (D.getD i []) →
      wpList P ops (Ends R a0.defers (ds.getD i none) (fun v w' => phi L D i (fun j => if j = i then v else vals j) w') w) [o] (putD ds vals (D.getD i []) a0) w) ∧ walksFrom P ops ds R L D a0 w0 (i + 1) r
theorem obs_of_walks {ds : List (Option Tmp)} {n : Nat} (hd : l.map (·.dst) = ds) (hn : (ds.all fun d => match d with | none => true | some t => decide (t < n)) = true) (ha : a0.tmps.size = n) :
    ∀ (m : List Oper) (i : Nat), l.drop i = m → walksFrom P l.toArray ds R L D a0 w0 i m → obsFrom P l.toArray R (phi L D) D a0 w0 i m
  | [], _, _, _ => trivial
  | o :: r, i, hm, h => by
    have hi : i < l.length := by
      apply Decidable.byContradiction
      intro hc
      rw [List.drop_eq_nil_of_le (Nat.le_of_not_lt hc)] at hm; cases hm
    have ho : l[i]? = some o := by
      rw [List.drop_eq_getElem_cons hi] at hm
      rw [List.getElem?_eq_getElem hi, (List.cons.inj hm).1]
    refine ⟨fun vals w hR hf => ?_, obs_of_walks hd hn ha r (i + 1) (by rw [← List.drop_drop, hm]; rfl) h.2⟩
    have h1 := h.1 vals w hR hf
    have hdo : ds.getD i none = o.dst := by subst hd; simp [List.getD_eq_getElem?_getD, List.getElem?_map, ho]
    rw [← putD_eq hd, hdo] at h1
    refine opRuns_of_list (fun t ht => ?_) ?_
    · rw [putAll_size, ha]
      have := List.all_eq_true.1 hn (some t) (by subst hd; exact List.mem_map.2 ⟨o, List.mem_of_getElem? ho, ht⟩)
      simpa using this
    · rw [putAll_def]; exact h1
/-- THE LAW again: each operation walked by itself -/
theorem region_walks {id : Nat} {Q : Exit → Act → World → Prop} (R : World → World → Prop) (L : List ((Nat → Value) → World → Prop)) (D : List (List Nat)) (ds : List (Option Tmp)) (n : Nat) (hm : P.follows .mixedOrders = true)
    (hs : Region.noSelect l.toArray = true) (hok : okTab l D = true) (hd : l.map (·.dst) = ds) (hn : (ds.all fun d => match d with | none => true | some t => decide (t < n)) = true) (ha : a0.tmps.size = n)
    (hRr : ∀ x, R x x) (hR : ∀ {x y z}, R x y → R y z → R x z) (hst : ∀ φ ∈ L, ∀ vals w w', R w w' → φ vals w → φ vals w')
    (hobs : walksFrom P l.toArray ds R L D a0 w0.drew 0 l)
    (hend : ∀ vals w, R w0.drew w → leans L D vals w (List.range l.length) → Q .normal (putD ds vals (List.range l.length) a0) w) :
    (Code.region id l.toArray true).wp P Q a0 w0 :=
  region_ext R L D hm hs hok hRr hR hst (obs_of_walks hd hn ha l 0 rfl hobs) (fun vals w h1 h2 => by rw [putD_eq hd]; exact hend vals w h1 h2)
end
end
end Go.Proofs.Ytanpamcecaoanaa

/-
  '==' on arrays of integers. No program is named here.
-/
namespace Go.Proofs.Ytanpamcecaoanaa
set_option maxRecDepth 100000
open Go.RowKit

section
variable {P : Program} (w : World)

def intCells (k : IntKind) (l : List Int) : Array Value := (l.map (Value.int k)).toArray
theorem intCells_get (k : IntKind) (l : List Int) (i : Nat) : (intCells k l)[i]? = (l[i]?).map (Value.int k) := by simp [intCells]

theorem run_part_int {e : TypeId} {k : IntKind} (hu : P.underlying e = some (.int k)) (cs : Array Value) (i : Nat) (v : Value) (h : cs[i]? = some v) : (part e cs (i * 1)).run P w = .ok v w := by
  rw [Nat.mul_one]
  simp [part, isAgg, Sem.run_bind, run_underlying hu, h]

theorem run_eqItems_int (d : Nat) {e : TypeId} {k : IntKind} (hu : P.underlying e = some (.int k)) (xs bs : List Int) : ∀ (m s : Nat), s + m ≤ xs.length → s + m ≤ bs.length →
    (Op.eqItems (d + 1) e 1 (intCells k xs) (intCells k bs) (List.range' s m)).run P w = .ok (decide ((xs.drop s).take m = (bs.drop s).take m)) w
  | 0, s, _, _ => by simp [Op.eqItems]
  | m + 1, s, ha, hb => by
    have h1 : (intCells k xs)[s]? = some (.int k xs[s]) := by rw [intCells_get, List.getElem?_eq_getElem (by omega)]; rfl
    have h2 : (intCells k bs)[s]? = some (.int k bs[s]) := by rw [intCells_get, List.getElem?_eq_getElem (by omega)]; rfl
    rw [List.range'_succ]
    simp only [Op.eqItems, Sem.run_bind, run_part_int w hu _ _ _ h1, run_part_int w hu _ _ _ h2, Result.andThen_ok, run_equalIn_int w d e k k xs[s] bs[s] hu]
    have e1 : (xs.drop s).take (m + 1) = xs[s] :: (xs.drop (s + 1)).take m := by rw [List.drop_eq_getElem_cons (by omega), List.take_succ_cons]
    have e2 : (bs.drop s).take (m + 1) = bs[s] :: (bs.drop (s + 1)).take m := by rw [List.drop_eq_getElem_cons (by omega), List.take_succ_cons]
    have ih := run_eqItems_int d hu xs bs m (s + 1) (by omega) (by omega)
    by_cases h : xs[s] = bs[s]
    · rw [show (xs[s] == bs[s]) = true by rw [h]; exact beq_self_eq_true _]
      simp only [Bool.not_true, Bool.false_eq_true, if_false]
      rw [ih, e1, e2, h]
      simp
    · rw [show (xs[s] == bs[s]) = false from beq_eq_false_iff_ne.2 h]
      simp only [Bool.not_false, if_true, Sem.run_pure]
      rw [e1, e2]
      simp [h]

theorem run_eql_ints {t e : TypeId} {n : Nat} {k : IntKind} {i : TypeInfo} (ht : P.underlying t = some (.array n e)) (hu : P.underlying e = some (.int k)) (hi : P.info? e = some i) (hc : P.cellsOf e = 1)
    (xs bs : List Int) (ha : xs.length = n) (hb : bs.length = n) : (binOp .eql t (.agg (intCells k xs)) (.agg (intCells k bs))).run P w = .ok (.bool (decide (xs = bs))) w := by
  rw [run_eql_struct, show (10000 : Nat) = 9998 + 1 + 1 from rfl, run_equalIn_array w _ _ _ ht hi, hc, List.range_eq_range', run_eqItems_int w 9998 hu xs bs n 0 (by omega) (by omega)]
  simp only [List.drop_zero, Result.andThen_ok]
  rw [List.take_of_length_le (by omega), List.take_of_length_le (by omega)]
theorem run_neq_ints {t e : TypeId} {n : Nat} {k : IntKind} {i : TypeInfo} (ht : P.underlying t = some (.array n e)) (hu : P.underlying e = some (.int k)) (hi : P.info? e = some i) (hc : P.cellsOf e = 1)
    (xs bs : List Int) (ha : xs.length = n) (hb : bs.length = n) : (binOp .neq t (.agg (intCells k xs)) (.agg (intCells k bs))).run P w = .ok (.bool (!decide (xs = bs))) w := by
  rw [run_neq_struct, show (10000 : Nat) = 9998 + 1 + 1 from rfl, run_equalIn_array w _ _ _ ht hi, hc, List.range_eq_range', run_eqItems_int w 9998 hu xs bs n 0 (by omega) (by omega)]
  simp only [List.drop_zero, Result.andThen_ok]
  rw [List.take_of_length_le (by omega), List.take_of_length_le (by omega)]

theorem HC_ints (l : List UInt8) : HC l = intCells .u8 (l.map Bt) := by simp [HC, intCells]
theorem Bt_list (l m : List UInt8) : decide (l.map Bt = m.map Bt) = (l == m) := by
  by_cases h : l = m
  · subst h; simp
  · rw [beq_eq_false_iff_ne.2 h]
    refine decide_eq_false fun e => h ?_
    exact (List.map_inj_right (f := Bt) (fun x y hxy => Bt_inj hxy)).1 e
theorem run_eql_hash {t e : TypeId} {i : TypeInfo} (ht : P.underlying t = some (.array 32 e)) (hu : P.underlying e = some (.int .u8)) (hi : P.info? e = some i) (hc : P.cellsOf e = 1)
    (l m : List UInt8) (hl : l.length = 32) (hm : m.length = 32) : (binOp .eql t (.agg (HC l)) (.agg (HC m))).run P w = .ok (.bool (l == m)) w := by
  rw [HC_ints, HC_ints, run_eql_ints w ht hu hi hc _ _ (by simpa using hl) (by simpa using hm), Bt_list]
theorem run_neq_hash {t e : TypeId} {i : TypeInfo} (ht : P.underlying t = some (.array 32 e)) (hu : P.underlying e = some (.int .u8)) (hi : P.info? e = some i) (hc : P.cellsOf e = 1)
    (l m : List UInt8) (hl : l.length = 32) (hm : m.length = 32) : (binOp .neq t (.agg (HC l)) (.agg (HC m))).run P w = .ok (.bool (!(l == m))) w := by
  rw [HC_ints, HC_ints, run_neq_ints w ht hu hi hc _ _ (by simpa using hl) (by simpa using hm), Bt_list]
theorem run_eql_words {t e : TypeId} {i : TypeInfo} (ht : P.underlying t = some (.array 5 e)) (hu : P.underlying e = some (.int .u64)) (hi : P.info? e = some i) (hc : P.cellsOf e = 1)
    (x y : W5) : (binOp .eql t (V5 x) (V5 y)).run P w = .ok (.bool (decide (x = y))) w := by
  have := run_eql_ints w ht hu hi hc [U x.a, U x.b, U x.c, U x.d, U x.e] [U y.a, U y.b, U y.c, U y.d, U y.e] rfl rfl
  refine Eq.trans this ?_
  congr 3
  apply propext
  constructor
  · intro h
    obtain ⟨a, b, c, d, e'⟩ := x
    obtain ⟨a', b', c', d', e''⟩ := y
    simp only [List.cons.injEq, and_true] at h
    rw [U_inj h.1, U_inj h.2.1, U_inj h.2.2.1, U_inj h.2.2.2.1, U_inj h.2.2.2.2]
  · rintro rfl; rfl
theorem equal_words {t e : TypeId} {i : TypeInfo} (ht : P.underlying t = some (.array 5 e)) (hu : P.underlying e = some (.int .u64)) (hi : P.info? e = some i) (hc : P.cellsOf e = 1)
    (x y : W5) : (Op.equalIn 10000 t (V5 x) (V5 y)).run P w = .ok (decide (x = y)) w := by
  have h := run_eql_words w ht hu hi hc x y
  rw [V5, V5, run_eql_struct] at h
  rw [V5, V5]
  generalize (Op.equalIn 10000 t _ _).run P w = r at *
  cases r <;> simp_all
theorem equal_hash {t e : TypeId} {i : TypeInfo} (ht : P.underlying t = some (.array 32 e)) (hu : P.underlying e = some (.int .u8)) (hi : P.info? e = some i) (hc : P.cellsOf e = 1)
    (l m : List UInt8) (hl : l.length = 32) (hm : m.length = 32) : (Op.equalIn 10000 t (.agg (HC l)) (.agg (HC m))).run P w = .ok (l == m) w := by
  have h := run_eql_hash w ht hu hi hc l m hl hm
  rw [run_eql_struct] at h
  generalize (Op.equalIn 10000 t _ _).run P w = r at *
  cases r <;> simp_all
end
end Go.Proofs.Ytanpamcecaoanaa

/-
  '==' on sums, as this program numbers them.
-/
namespace Go.Proofs.Ytanpamcecaoanaa
set_option maxRecDepth 100000
open Go.RowKit

theorem infoe8 : ∃ i, Try.prog.info? 5 = some i := by
  obtain ⟨i, hi, _⟩ := info_parts info8
  exact ⟨i, hi⟩

theorem eqh_guard (w : World) (o : BinOp) (p q : Operand) (x y : List UInt8) : (eqGuard o 30 p q (HV x) (HV y)).run Try.prog w = .ok () w :=
  run_eqGuard_agg w o 30 p q _ _ (by kernel_rfl)
theorem eqh (w : World) (x y : List UInt8) (hx : x.length = 32) (hy : y.length = 32) : (binOp .eql 30 (HV x) (HV y)).run Try.prog w = .ok (.bool (x == y)) w := by
  obtain ⟨i, hi⟩ := infoe8
  exact run_eql_hash w Try.underlying30 Try.underlying5 hi (by kernel_rfl) x y hx hy
theorem neh (w : World) (x y : List UInt8) (hx : x.length = 32) (hy : y.length = 32) : (binOp .neq 30 (HV x) (HV y)).run Try.prog w = .ok (.bool (!(x == y))) w := by
  obtain ⟨i, hi⟩ := infoe8
  exact run_neq_hash w Try.underlying30 Try.underlying5 hi (by kernel_rfl) x y hx hy
end Go.Proofs.Ytanpamcecaoanaa

/-
  What is said of operations' values in a region whose order is open, where memory only grows. No program is named here.
-/
namespace Go.Proofs.Ytanpamcecaoanaa
set_option maxRecDepth 100000
open Go.RowKit

/-- blocks keep their cells (their marks aside) -/
def Marks (w w' : World) : Prop := ∀ (g : Nat) (cs : Array Value) (t : TypeId) (fr : Nat × Nat), w.heap[g]? = some (.cells cs t fr) → ∃ fr', w'.heap[g]? = some (.cells cs t fr')
theorem Marks.refl (w : World) : Marks w w := fun _ _ _ fr h => ⟨fr, h⟩
theorem Marks.trans {a b c : World} (h : Marks a b) (k : Marks b c) : Marks a c := fun g cs t fr hg => by
  obtain ⟨fr', h1⟩ := h g cs t fr hg
  exact k g cs t fr' h1
theorem Marks.below {w w' : World} (h : Below w.heap.size w w') : Marks w w' := fun g _ _ fr hg => ⟨fr, (h.block g (Array.getElem?_eq_some_iff.1 hg).1).trans hg⟩
theorem Marks.cell {w w' : World} (h : Marks w w') {x : Addr} {v : Value} (hx : w.cell? x = some v) : w'.cell? x = some v := by
  unfold World.cell? at *
  cases hb : w.heap[x.block]? with
  | none => rw [hb] at hx; cases hx
  | some o =>
    rw [hb] at hx
    cases o with
    | cells cs t fr =>
      obtain ⟨fr', h1⟩ := h _ _ _ _ hb
      rw [h1]; exact hx
    | _ => cases hx
theorem Row8.marks {w w' : World} {a : Option Addr} {len : Nat} {bs : List UInt8} (h : Row8 w a len bs) (k : Marks w w') : Row8 w' a len bs := h.mono fun _ _ hx _ => k.cell hx
theorem RowR.marks {w w' : World} {a : Option Addr} {len : Nat} {L : List (List UInt8)} (h : RowR w a len L) (k : Marks w w') : RowR w' a len L := by
  refine ⟨h.len_eq, h.small, ?_⟩
  rcases h.cells with h1 | ⟨c, off, rfl, hc⟩
  · exact .inl h1
  · refine .inr ⟨c, off, rfl, fun i hi => ?_⟩
    obtain ⟨a', l', c', h2, h3⟩ := hc i hi
    exact ⟨a', l', c', k.cell h2, h3.marks k⟩

/-- memory grows; what lies below B stays whole, what lies above keeps its cells -/
structure Grows (B : Nat) (w w' : World) : Prop where
  below : Below B w w'
  marks : Marks w w'
theorem Grows.refl (B : Nat) (w : World) : Grows B w w := ⟨Below.refl _ _, Marks.refl _⟩
theorem Grows.trans {B : Nat} {a b c : World} (h : Grows B a b) (k : Grows B b c) : Grows B a c := ⟨h.below.trans k.below, h.marks.trans k.marks⟩
theorem Grows.size {B : Nat} {a b : World} (h : Grows B a b) (hB : B ≤ a.heap.size) : B ≤ b.heap.size := Nat.le_trans hB h.below.size
theorem Grows.of {B : Nat} {w w' : World} (h : Below w.heap.size w w') (hB : B ≤ w.heap.size) : Grows B w w' := ⟨h.mono hB, .below h⟩
theorem Grows.alloc {B : Nat} (w : World) (o : Obj) (hB : B ≤ w.heap.size) : Grows B w (w.alloc o) := .of ((Below.refl _ _).alloc (Nat.le_refl _) _) hB
theorem Grows.freeze {B : Nat} (w : World) (g off n : Nat) (hB : B ≤ g) : Grows B w (w.freeze ⟨g, off, none⟩ n) := by
  unfold World.freeze
  by_cases h0 : n = 0
  · rw [if_pos h0]; exact .refl _ _
  · rw [if_neg h0]
    refine ⟨⟨rfl, rfl, rfl, by simp, fun k hk => ?_⟩, fun k cs t fr hk => ?_⟩
    · have hne : g ≠ k := by omega
      simp [Array.getElem?_modify, hne]
    · by_cases hgk : g = k
      · subst hgk
        refine ⟨if fr.1 == fr.2 then (off, off + n) else (min fr.1 off, max fr.2 (off + n)), ?_⟩
        simp [Array.getElem?_modify, hk]
      · exact ⟨fr, by simp [Array.getElem?_modify, hgk, hk]⟩

/-- operation i's value is v -/
def isV (i : Nat) (v : Value) : (Nat → Value) → World → Prop := fun vals _ => vals i = v
/-- .. is that of operation j -/
def asV (i j : Nat) : (Nat → Value) → World → Prop := fun vals _ => vals i = vals j
/-- .. is a slice of bytes, of so many, over a whole block of the region's own -/
def litV (B i n : Nat) (bs : List UInt8) (t : TypeId) : (Nat → Value) → World → Prop := fun vals w => ∃ g fr, B ≤ g ∧ vals i = .slice (some ⟨g, 0, none⟩) n n ∧ w.heap[g]? = some (.cells (HC bs) t fr)
/-- .. is a slice of bytes, of so many, at the head of a block -/
def rowV (i n : Nat) (bs : List UInt8) : (Nat → Value) → World → Prop := fun vals w => ∃ g c, vals i = .slice (some ⟨g, 0, none⟩) n c ∧ Row8 w (some ⟨g, 0, none⟩) n bs
/-- .. is a slice of rows -/
def rowsV (i n : Nat) (L : List (List UInt8)) : (Nat → Value) → World → Prop := fun vals w => ∃ g c, vals i = .slice (some ⟨g, 0, none⟩) n c ∧ RowR w (some ⟨g, 0, none⟩) n L

def StM (φ : (Nat → Value) → World → Prop) : Prop := ∀ vals w w', Marks w w' → φ vals w → φ vals w'
theorem st_is (i : Nat) (v : Value) : StM (isV i v) := fun _ _ _ _ h => h
theorem st_as (i j : Nat) : StM (asV i j) := fun _ _ _ _ h => h
theorem st_row (i n : Nat) (bs : List UInt8) : StM (rowV i n bs) := fun _ _ _ hb ⟨g, c, h1, h2⟩ => ⟨g, c, h1, h2.marks hb⟩
theorem st_rows (i n : Nat) (L : List (List UInt8)) : StM (rowsV i n L) := fun _ _ _ hb ⟨g, c, h1, h2⟩ => ⟨g, c, h1, h2.marks hb⟩
theorem st_lit (B i n : Nat) (bs : List UInt8) (t : TypeId) : StM (litV B i n bs t) := fun _ _ _ hb ⟨g, fr, h0, h1, h2⟩ => by
  obtain ⟨fr', h3⟩ := hb _ _ _ _ h2
  exact ⟨g, fr', h0, h1, h3⟩
theorem st_nil : ∀ φ ∈ ([] : List ((Nat → Value) → World → Prop)), StM φ := fun _ h => by cases h
theorem st_cons {φ : (Nat → Value) → World → Prop} {L : List ((Nat → Value) → World → Prop)} (h : StM φ) (k : ∀ φ ∈ L, StM φ) : ∀ ψ ∈ φ :: L, StM ψ := List.forall_mem_cons.2 ⟨h, k⟩

theorem Row8.ofCells {w : World} {g n : Nat} {bs : List UInt8} {t : TypeId} {fr : Nat × Nat} (h : w.heap[g]? = some (.cells (HC bs) t fr)) (hn : n = bs.length) (hm : bs.length ≤ maxLen) : Row8 w (some ⟨g, 0, none⟩) n bs := by
  refine ⟨hn, hm, .inr ⟨g, 0, rfl, fun i hi => ?_⟩⟩
  rw [Nat.zero_add, cell_of_row _ _ i _ _ _ h]
  exact HC_get_lt bs i hi
/-- a constant string's bytes, marked -/
theorem run_convert_mark {P : Program} (w : World) (t e : TypeId) (g n c : Nat) (cs : Array Value) (u : TypeId) (fr : Nat × Nat) (ht : P.underlying t = some (.slice e)) (he : P.underlying e = some (.int .u8)) (hg : w.heap[g]? = some (.cells cs u fr)) :
    (convert t t (.slice (some ⟨g, 0, none⟩) n c)).run P w = .ok (.slice (some ⟨g, 0, none⟩) n c) (w.freeze ⟨g, cs.size, none⟩ 1) := by
  have hsh : w.shape? g = some (u, cs.size) := by unfold World.shape?; rw [hg]
  simp [convert, run_underlying ht, run_underlying he, markStringish, hsh]

/-- THE LAW, where memory only grows -/
theorem region_grows {P : Program} {l : List Oper} {a0 : Act} {w0 : World} {id : Nat} {Q : Exit → Act → World → Prop} (B : Nat) (hB : B ≤ w0.heap.size) (L : List ((Nat → Value) → World → Prop)) (D : List (List Nat)) (ds : List (Option Tmp)) (n : Nat) (hm : P.follows .mixedOrders = true)
    (hs : Region.noSelect l.toArray = true) (hok : okTab l D = true) (hd : l.map (·.dst) = ds) (hn : (ds.all fun d => match d with | none => true | some t => decide (t < n)) = true) (ha : a0.tmps.size = n) (hst : ∀ φ ∈ L, StM φ)
    (hobs : (∀ w1, Grows B w0.drew w1 → Grows B w0 w1 ∧ B ≤ w1.heap.size) → walksFrom P l.toArray ds (Grows B) L D a0 w0.drew 0 l)
    (hend : ∀ vals w, Grows B w0 w → leans L D vals w (List.range l.length) → Q .normal (putD ds vals (List.range l.length) a0) w) :
    (Code.region id l.toArray true).wp P Q a0 w0 := by
  have hdr : ∀ w1, Grows B w0.drew w1 → Grows B w0 w1 := fun w1 h => ⟨⟨h.below.os, h.below.tape, h.below.output, h.below.size, h.below.block⟩, h.marks⟩
  exact region_walks (Grows B) L D ds n hm hs hok hd hn ha (Grows.refl B) Grows.trans (fun φ hφ vals w w' hR h => hst φ hφ vals w w' hR.marks h)
    (hobs fun w1 h => ⟨hdr w1 h, h.size hB⟩) (fun vals w h1 h2 => hend vals w (hdr w h1) h2)

/-- a guarded operation that is wanted is walked like one without a guard -/
theorem one_wanted {P : Program} {ops : Array Oper} {Q : Exit → Act → World → Prop} {d : Option Tmp} {op : Op} {ty : TypeId} {pos : String} {af : Array Edge} {g : Option (Nat × Bool)} {a : Act} {w : World} (hw : Region.wanted ⟨d, op, ty, pos, af, g⟩ (yielded ops a.tmps) = true)
    (h : wpList P ops Q [⟨d, op, ty, pos, af, none⟩] a w) : wpList P ops Q [⟨d, op, ty, pos, af, g⟩] a w := by
  unfold wpList at *
  rw [if_pos hw]
  exact h
theorem list_wanted {P : Program} {ops : Array Oper} {Q : Exit → Act → World → Prop} {rest : List Oper} {d : Option Tmp} {op : Op} {ty : TypeId} {pos : String} {af : Array Edge} {g : Option (Nat × Bool)} {a : Act} {w : World} (hw : Region.wanted ⟨d, op, ty, pos, af, g⟩ (yielded ops a.tmps) = true)
    (h : wpList P ops Q (⟨d, op, ty, pos, af, none⟩ :: rest) a w) : wpList P ops Q (⟨d, op, ty, pos, af, g⟩ :: rest) a w := by
  unfold wpList at *
  rw [if_pos hw]
  exact h
/-- .. and one that is not wanted does nothing -/
theorem one_dropped {P : Program} {ops : Array Oper} {Q : Exit → Act → World → Prop} {o : Oper} {a : Act} {w : World} (hw : Region.wanted o (yielded ops a.tmps) = false)
    (h : Q .normal (a.put o.dst undef) w) : wpList P ops Q [o] a w := by
  unfold wpList
  rw [if_neg (by rw [hw]; decide)]
  exact h
theorem RowR.litAt {w : World} {g n : Nat} {e : TypeId} (L : List (List UInt8)) (cs : Array Value) (hg : g = w.heap.size) (hn : n = L.length) (hm : L.length ≤ maxLen)
    (h : ∀ (i : Nat) (hi : i < L.length), ∃ a' l' c', cs[i]? = some (.slice a' l' c') ∧ Row8 w a' l' L[i]) : RowR (w.alloc (.cells cs e)) (some ⟨g, 0, none⟩) n L := by
  subst hg hn
  refine ⟨rfl, hm, .inr ⟨w.heap.size, 0, rfl, fun i hi => ?_⟩⟩
  obtain ⟨a', l', c', h1, h2⟩ := h i hi
  rw [Nat.zero_add, cell_of_row _ _ i _ _ _ (Blk.new w cs e)]
  exact ⟨a', l', c', h1, h2.below (Below.alloc (Below.refl _ _) (Nat.le_refl _) _)⟩
theorem RowR.one {w : World} {e : TypeId} {a : Option Addr} {l c : Nat} {bs : List UInt8} (h : Row8 w a l bs) : RowR (w.alloc (.cells #[.slice a l c] e)) (some ⟨w.heap.size, 0, none⟩) 1 [bs] :=
  RowR.litAt _ _ rfl rfl (by simp [maxLen]) fun i hi => by
    obtain rfl : i = 0 := by simpa using hi
    exact ⟨a, l, c, rfl, h⟩
theorem RowR.two {w : World} {e : TypeId} {a a2 : Option Addr} {l c l2 c2 : Nat} {bs bs2 : List UInt8} (h : Row8 w a l bs) (h2 : Row8 w a2 l2 bs2) : RowR (w.alloc (.cells #[.slice a l c, .slice a2 l2 c2] e)) (some ⟨w.heap.size, 0, none⟩) 2 [bs, bs2] :=
  RowR.litAt _ _ rfl rfl (by simp [maxLen]) fun i hi => by
    match i, hi with
    | 0, _ => exact ⟨a, l, c, rfl, h⟩
    | 1, _ => exact ⟨a2, l2, c2, rfl, h2⟩
    | n + 2, hi => exact absurd hi (by simp)
theorem RowR.oneAt {w : World} {e : TypeId} {g : Nat} {a : Option Addr} {l c : Nat} {bs : List UInt8} (hg : g = w.heap.size) (h : Row8 w a l bs) : RowR (w.alloc (.cells #[.slice a l c] e)) (some ⟨g, 0, none⟩) 1 [bs] := hg ▸ RowR.one h
theorem RowR.twoAt {w : World} {e : TypeId} {g : Nat} {a a2 : Option Addr} {l c l2 c2 : Nat} {bs bs2 : List UInt8} (hg : g = w.heap.size) (h : Row8 w a l bs) (h2 : Row8 w a2 l2 bs2) : RowR (w.alloc (.cells #[.slice a l c, .slice a2 l2 c2] e)) (some ⟨g, 0, none⟩) 2 [bs, bs2] := hg ▸ RowR.two h h2
theorem _root_.Go.RowKit.Below.next {B : Nat} {a w : World} (h : Below B a w) (hB : B ≤ a.heap.size) (o : Obj) : Below B a (w.alloc o) := h.alloc (Nat.le_trans hB h.size) o
theorem _root_.Go.RowKit.Below.later {B : Nat} {a b c : World} (h : Below B a b) (k : Below b.heap.size b c) (hB : B ≤ a.heap.size) : Below B a c := h.trans (k.mono (Nat.le_trans hB h.size))
theorem sel_lit {ks : List Nat} {vals : Nat → Value} {B i n : Nat} {bs : List UInt8} {t : TypeId} {w : World} (h : ks.contains i = true) : litV B i n bs t (sel ks vals) w ↔ litV B i n bs t vals w := by
  unfold litV sel; rw [if_pos h]
theorem sel_row {ks : List Nat} {vals : Nat → Value} {i n : Nat} {bs : List UInt8} {w : World} (h : ks.contains i = true) : rowV i n bs (sel ks vals) w ↔ rowV i n bs vals w := by
  unfold rowV sel; rw [if_pos h]
theorem sel_rows {ks : List Nat} {vals : Nat → Value} {i n : Nat} {L : List (List UInt8)} {w : World} (h : ks.contains i = true) : rowsV i n L (sel ks vals) w ↔ rowsV i n L vals w := by
  unfold rowsV sel; rw [if_pos h]
theorem sel_own {i : Nat} {ks : List Nat} {x : Value} {vals : Nat → Value} : sel (i :: ks) (fun j => if j = i then x else vals j) i = x := by simp [sel]
theorem mk_is {v x : Value} {i : Nat} {ks : List Nat} {vals : Nat → Value} {w : World} (h : x = v) : isV i v (sel (i :: ks) fun j => if j = i then x else vals j) w := sel_own.trans h
theorem mk_lit {x : Value} {B i n : Nat} {ks : List Nat} {bs : List UInt8} {t : TypeId} {vals : Nat → Value} {w : World} (g : Nat) (fr : Nat × Nat) (h0 : B ≤ g) (h : x = .slice (some ⟨g, 0, none⟩) n n) (hb : w.heap[g]? = some (.cells (HC bs) t fr)) : litV B i n bs t (sel (i :: ks) fun j => if j = i then x else vals j) w :=
  ⟨g, fr, h0, sel_own.trans h, hb⟩
theorem mk_row {x : Value} {i n : Nat} {ks : List Nat} {bs : List UInt8} {vals : Nat → Value} {w : World} (g c : Nat) (h : x = .slice (some ⟨g, 0, none⟩) n c) (hb : Row8 w (some ⟨g, 0, none⟩) n bs) : rowV i n bs (sel (i :: ks) fun j => if j = i then x else vals j) w :=
  ⟨g, c, sel_own.trans h, hb⟩
theorem mk_rows {x : Value} {i n : Nat} {ks : List Nat} {L : List (List UInt8)} {vals : Nat → Value} {w : World} (g c : Nat) (h : x = .slice (some ⟨g, 0, none⟩) n c) (hb : RowR w (some ⟨g, 0, none⟩) n L) : rowsV i n L (sel (i :: ks) fun j => if j = i then x else vals j) w :=
  ⟨g, c, sel_own.trans h, hb⟩
theorem RowR.three {w : World} {e : TypeId} {a a2 a3 : Option Addr} {l c l2 c2 l3 c3 : Nat} {bs bs2 bs3 : List UInt8} (h : Row8 w a l bs) (h2 : Row8 w a2 l2 bs2) (h3 : Row8 w a3 l3 bs3) :
    RowR (w.alloc (.cells #[.slice a l c, .slice a2 l2 c2, .slice a3 l3 c3] e)) (some ⟨w.heap.size, 0, none⟩) 3 [bs, bs2, bs3] :=
  RowR.litAt _ _ rfl rfl (by simp [maxLen]) fun i hi => by
    match i, hi with
    | 0, _ => exact ⟨a, l, c, rfl, h⟩
    | 1, _ => exact ⟨a2, l2, c2, rfl, h2⟩
    | 2, _ => exact ⟨a3, l3, c3, rfl, h3⟩
    | n + 3, hi => exact absurd hi (by simp)
theorem RowR.four {w : World} {e : TypeId} {a a2 a3 a4 : Option Addr} {l c l2 c2 l3 c3 l4 c4 : Nat} {bs bs2 bs3 bs4 : List UInt8} (h : Row8 w a l bs) (h2 : Row8 w a2 l2 bs2) (h3 : Row8 w a3 l3 bs3) (h4 : Row8 w a4 l4 bs4) :
    RowR (w.alloc (.cells #[.slice a l c, .slice a2 l2 c2, .slice a3 l3 c3, .slice a4 l4 c4] e)) (some ⟨w.heap.size, 0, none⟩) 4 [bs, bs2, bs3, bs4] :=
  RowR.litAt _ _ rfl rfl (by simp [maxLen]) fun i hi => by
    match i, hi with
    | 0, _ => exact ⟨a, l, c, rfl, h⟩
    | 1, _ => exact ⟨a2, l2, c2, rfl, h2⟩
    | 2, _ => exact ⟨a3, l3, c3, rfl, h3⟩
    | 3, _ => exact ⟨a4, l4, c4, rfl, h4⟩
    | n + 4, hi => exact absurd hi (by simp)
end Go.Proofs.Ytanpamcecaoanaa

/-
  Arguments opened: arrays of bytes and of words, slices of bytes, slices of these. No program is named here.
-/
namespace Go.Proofs.Ytanpamcecaoanaa
set_option maxRecDepth 100000
open Go.RowKit Go.ChangeShapes Go.WideShapes

/-- numbers of a byte's range as bytes -/
def toB (l : List Int) : List UInt8 := l.map fun z => UInt8.ofNat z.toNat
theorem toB_length (l : List Int) : (toB l).length = l.length := by simp [toB]
theorem Bt_of {z : Int} (h : (Lit.int .u8 z).wf = true) : Bt (UInt8.ofNat z.toNat) = z := by
  have := bounds_u8 h
  unfold Bt
  rw [UInt8.toNat_ofNat']
  omega
theorem U_of {z : Int} (h : (Lit.int .u64 z).wf = true) : ∃ x : BitVec 64, z = U x := by
  have := bounds_u64 h
  refine ⟨BitVec.ofNat 64 z.toNat, ?_⟩
  rw [U_def, BitVec.toNat_ofNat]
  omega
theorem all_ints {k : IntKind} : ∀ (l : List Value), (∀ i, i < l.length → ∃ n, l[i]? = some (.int k n) ∧ (Lit.int k n).wf = true) → ∃ ns : List Int, l = ns.map (.int k) ∧ ∀ n ∈ ns, (Lit.int k n).wf = true
  | [], _ => ⟨[], rfl, by simp⟩
  | v :: r, h => by
    obtain ⟨n, h0, hw⟩ := h 0 (by simp)
    obtain ⟨ns, h1, h2⟩ := all_ints r fun i hi => by simpa using h (i + 1) (by simp; omega)
    simp only [List.getElem?_cons_zero, Option.some.injEq] at h0
    exact ⟨n :: ns, by rw [h0, h1]; rfl, by
      intro m hm
      rcases List.mem_cons.1 hm with rfl | hm
      · exact hw
      · exact h2 m hm⟩

section
variable {H : Type} {enc : TypeId × Value → H} {P : Program} {w : World} {base b0 : Nat} {spare : Nat → Bool} {held : Bool}

theorem open_ints_array {r : Reach} {t e : TypeId} {k : IntKind} {n : Nat} {v : Value} {d : DataW H} {ps : List MemPlace} (ht : P.underlying t = some (.array n e)) (hu : P.underlying e = some (.int k)) (hc : P.cellsOf e = 1) (hct : P.cellsOf t = n)
    (hval : Value.okWide P w r b0 t v) (h : DataW.Trod enc P w base spare held t v d ps) : ∃ ns : List Int, v = .agg (ns.map (.int k)).toArray ∧ ns.length = n ∧ ∀ z ∈ ns, (Lit.int k z).wf = true := by
  unfold Value.okWide at hval
  rw [ht] at hval
  obtain ⟨cs, rfl, hsz, _⟩ := hval
  obtain ⟨fuel, hf⟩ := h
  obtain ⟨xs, m, _, _, hl, hxl, hel⟩ := DataW.trod_array ht hf
  have hcl : cs.toList.length = n := by rw [← hct, ← hsz]; simp
  obtain ⟨ns, h1, h2⟩ := all_ints (k := k) cs.toList fun i hi => by
    rw [hcl] at hi
    have h3 := hel i hi
    rw [List.getElem?_eq_getElem (by omega)] at h3
    obtain ⟨z, h4, _, h5⟩ := DataW.trod_int hu h3
    refine ⟨z, ?_, h5⟩
    rw [hc, Nat.mul_one, show (Value.agg cs).cells = cs from rfl, List.drop_eq_getElem_cons (by omega), List.take_succ_cons, List.take_zero] at h4
    rw [List.getElem?_eq_getElem (by omega)]
    exact congrArg some (by simpa using h4)
  refine ⟨ns, ?_, ?_, h2⟩
  · rw [← h1]
  · rw [← hcl, h1, List.length_map]

theorem open_hash {r : Reach} {t e : TypeId} {v : Value} {d : DataW H} {ps : List MemPlace} (ht : P.underlying t = some (.array 32 e)) (hu : P.underlying e = some (.int .u8)) (hc : P.cellsOf e = 1) (hct : P.cellsOf t = 32)
    (hval : Value.okWide P w r b0 t v) (h : DataW.Trod enc P w base spare held t v d ps) : ∃ bs : List UInt8, v = HV bs ∧ bs.length = 32 := by
  obtain ⟨ns, rfl, hl, hw⟩ := open_ints_array ht hu hc hct hval h
  refine ⟨toB ns, ?_, by rw [toB_length, hl]⟩
  unfold HV HC toB
  rw [List.map_map]
  congr 2
  refine List.map_congr_left fun z hz => ?_
  show Value.int .u8 z = Value.int .u8 (Bt (UInt8.ofNat z.toNat))
  rw [Bt_of (hw z hz)]
theorem open_words {r : Reach} {t e : TypeId} {v : Value} {d : DataW H} {ps : List MemPlace} (ht : P.underlying t = some (.array 5 e)) (hu : P.underlying e = some (.int .u64)) (hc : P.cellsOf e = 1) (hct : P.cellsOf t = 5)
    (hval : Value.okWide P w r b0 t v) (h : DataW.Trod enc P w base spare held t v d ps) : ∃ x : W5, v = V5 x := by
  obtain ⟨ns, rfl, hl, hw⟩ := open_ints_array ht hu hc hct hval h
  match ns, hl with
  | [a, b, c, d, e], _ =>
    obtain ⟨xa, rfl⟩ := U_of (hw a (by simp))
    obtain ⟨xb, rfl⟩ := U_of (hw b (by simp))
    obtain ⟨xc, rfl⟩ := U_of (hw c (by simp))
    obtain ⟨xd, rfl⟩ := U_of (hw d (by simp))
    obtain ⟨xe, rfl⟩ := U_of (hw e (by simp))
    exact ⟨⟨xa, xb, xc, xd, xe⟩, rfl⟩

/-- each weight of an argument is within the form's reach -/
theorem light {ts : List TypeId} {ds : List (DataW H)} (hsz : (DataW.weightsEach P ts ds).all (· ≤ reachBytes) = true) (j : Nat) {t : TypeId} {d : DataW H} (ht : ts[j]? = some t) (hd : ds[j]? = some d) : ∀ n ∈ d.weights P t, n ≤ 140737488351232 := fun n hn => by
  have := List.all_eq_true.1 hsz _ (DataW.weights_mem_each ht hd n hn)
  exact of_decide_eq_true this
theorem weight_of_slice {t e : TypeId} {xs ys : List (DataW H)} (ht : P.underlying t = some (.slice e)) (h : ∀ n ∈ (DataW.slice xs ys).weights P t, n ≤ 140737488351232) : (xs.length + ys.length) * P.bytesOf e ≤ 140737488351232 :=
  h _ (by simp [DataW.weights, ht])
theorem weight_of_elem {t e : TypeId} {xs ys : List (DataW H)} (ht : P.underlying t = some (.slice e)) (h : ∀ n ∈ (DataW.slice xs ys).weights P t, n ≤ 140737488351232) : ∀ d ∈ xs, ∀ n ∈ d.weights P e, n ≤ 140737488351232 := by
  have hall : ∀ (l : List (DataW H)), (∀ n ∈ DataW.weightsAll P e l, n ≤ 140737488351232) → ∀ d ∈ l, ∀ n ∈ d.weights P e, n ≤ 140737488351232 := by
    intro l
    induction l with
    | nil => intro _ d hd; cases hd
    | cons a r ih =>
      intro hl d hd
      simp only [DataW.weightsAll, List.mem_append] at hl
      rcases List.mem_cons.1 hd with rfl | hd
      · exact fun n hn => hl n (.inl hn)
      · exact ih (fun n hn => hl n (.inr hn)) d hd
  refine hall xs fun n hn => h n ?_
  simp [DataW.weights, ht, hn]

/-- what a slice of bytes is, as an argument -/
structure Arg8 (w : World) (a : Option Addr) (l c : Nat) (bs : List UInt8) : Prop where
  row : Row8 w a l bs
  nil : a = none → c = 0
  le : l ≤ c
  small : c ≤ 140737488351232

theorem row8_of_ints {a : Addr} {n : Nat} {zs : List Int} (hn : n ≤ zs.length) (hm : n ≤ maxLen) (hcell : ∀ i, i < zs.length → w.cell? (a.add i) = some (.int .u8 (zs.getD i 0))) (hw : ∀ z ∈ zs, (Lit.int .u8 z).wf = true) :
    Row8 w (some a) n ((toB zs).take n) := by
  have hlen : ((toB zs).take n).length = n := by rw [List.length_take, toB_length]; omega
  refine ⟨hlen.symm, by rw [hlen]; exact hm, ?_⟩
  by_cases h0 : n = 0
  · left; subst h0; simp
  · right
    have hsp : a.spot = none := by
      have h1 := hcell 0 (by omega)
      unfold World.cell? at h1
      split at h1
      · next c t fr hb =>
        by_cases hs : (a.add 0).spot.isSome = true
        · rw [if_pos hs] at h1; cases h1
        · simpa [Addr.add] using hs
      · cases h1
    refine ⟨a.block, a.off, by cases a; simp_all, fun i hi => ?_⟩
    rw [hlen] at hi
    have h1 := hcell i (by omega)
    have hadd : a.add i = ⟨a.block, a.off + i, none⟩ := by
      unfold Addr.add
      split
      · next h => subst h; cases a; simp_all
      · simp_all
    rw [hadd] at h1
    rw [h1]
    have hiz : i < zs.length := by omega
    congr 2
    rw [List.getElem_take, List.getD_eq_getElem?_getD, List.getElem?_eq_getElem hiz, Option.getD_some]
    unfold toB
    rw [List.getElem_map, Bt_of (hw _ (List.getElem_mem hiz))]

theorem open_bytes {r : Reach} {t e : TypeId} {v : Value} {d : DataW H} {ps : List MemPlace} (ht : P.underlying t = some (.slice e)) (hu : P.underlying e = some (.int .u8)) (hc : P.cellsOf e = 1) (hby : P.bytesOf e = 1)
    (hval : Value.okWide P w r b0 t v) (h : DataW.Trod enc P w base (fun _ => true) held t v d ps) (hlt : ∀ n ∈ d.weights P t, n ≤ 140737488351232) : ∃ a l c bs, v = .slice a l c ∧ Arg8 w a l c bs := by
  unfold Value.okWide at hval
  rw [ht] at hval
  obtain ⟨fuel, hf⟩ := h
  rcases open_ints ht hu hc hf with ⟨hcs, _⟩ | ⟨a, len, cap, zs, hcs, _, hl, hm, hz, hx, hcell, hw⟩
  · have : v = .slice none 0 0 := by cases v <;> simp_all [Value.cells, Cell.okWide, Cell.ok]
    exact ⟨none, 0, 0, [], this, Row8.nil _ _, fun _ => rfl, Nat.le_refl _, Nat.zero_le _⟩
  · have : v = .slice (some a) len cap := by cases v <;> simp_all [Value.cells, Cell.okWide, Cell.ok]
    simp only [if_true] at hz
    simp only [Prod.mk.injEq] at hx
    rw [hx.1] at hlt
    have hwt := weight_of_slice ht hlt
    rw [hby] at hwt
    simp [lits] at hwt
    exact ⟨some a, len, cap, _, this, row8_of_ints (by omega) (by omega) hcell hw, (fun h => by cases h), hl, by omega⟩

/-- what a slice of rows of bytes is, as an argument -/
structure ArgR (w : World) (a : Option Addr) (l c : Nat) (L : List (List UInt8)) : Prop where
  len_eq : l = L.length
  nil : a = none → c = 0
  le : l ≤ c
  small : c ≤ 140737488351232
  cells : L = [] ∨ ∃ b off, a = some ⟨b, off, none⟩ ∧ ∀ (i : Nat) (h : i < L.length), ∃ a' l' c', w.cell? ⟨b, off + i, none⟩ = some (.slice a' l' c') ∧ Arg8 w a' l' c' L[i]
theorem ArgR.row {a : Option Addr} {l c : Nat} {L : List (List UInt8)} (h : ArgR w a l c L) : RowR w a l L := by
  refine ⟨h.len_eq, by have := h.le; have := h.small; have := h.len_eq; simp only [maxLen]; omega, ?_⟩
  rcases h.cells with h1 | ⟨b, off, h1, h2⟩
  · exact .inl h1
  · refine .inr ⟨b, off, h1, fun i hi => ?_⟩
    obtain ⟨a', l', c', h3, h4⟩ := h2 i hi
    exact ⟨a', l', c', h3, h4.row⟩
theorem Arg8.below {w' : World} {a : Option Addr} {l c : Nat} {bs : List UInt8} (h : Arg8 w a l c bs) (b : Below w.heap.size w w') : Arg8 w' a l c bs := ⟨h.row.below b, h.nil, h.le, h.small⟩
theorem ArgR.below {w' : World} {a : Option Addr} {l c : Nat} {L : List (List UInt8)} (h : ArgR w a l c L) (b : Below w.heap.size w w') : ArgR w' a l c L := by
  refine ⟨h.len_eq, h.nil, h.le, h.small, ?_⟩
  rcases h.cells with h1 | ⟨c, off, rfl, hc⟩
  · exact .inl h1
  · refine .inr ⟨c, off, rfl, fun i hi => ?_⟩
    obtain ⟨a', l', c', h2, h3⟩ := hc i hi
    exact ⟨a', l', c', (b.cell (block_lt_of_cell h2)).trans h2, h3.below b⟩

theorem open_rows {r : Reach} {t e q : TypeId} {v : Value} {d : DataW H} {ps : List MemPlace} (ht : P.underlying t = some (.slice e)) (he : P.underlying e = some (.slice q)) (hq : P.underlying q = some (.int .u8)) (ce : P.cellsOf e = 1) (cq : P.cellsOf q = 1) (bq : P.bytesOf q = 1) (be : P.bytesOf e = 24)
    (hval : Value.okWide P w r b0 t v) (h : DataW.Trod enc P w base (fun _ => true) held t v d ps) (hlt : ∀ n ∈ d.weights P t, n ≤ 140737488351232) : ∃ a l c L, v = .slice a l c ∧ ArgR w a l c L := by
  unfold Value.okWide at hval
  rw [ht] at hval
  obtain ⟨fuel, hf⟩ := h
  rcases Deep.open_int_rows ht he hq ce cq hf with ⟨hcs, _⟩ | ⟨a, len, cap, A, L, C, Z, hcs, _, hl, hm, hx, hcell⟩
  · have : v = .slice none 0 0 := by cases v <;> simp_all [Value.cells, Cell.okWide, Cell.ok]
    exact ⟨none, 0, 0, [], this, rfl, fun _ => rfl, Nat.le_refl _, Nat.zero_le _, .inl rfl⟩
  · have hv : v = .slice (some a) len cap := by cases v <;> simp_all [Value.cells, Cell.okWide, Cell.ok]
    simp only [Prod.mk.injEq] at hx
    rw [hx.1] at hlt
    have hwt := weight_of_slice ht hlt
    rw [be] at hwt
    simp at hwt
    have hwe := weight_of_elem ht hlt
    have each : ∀ i, i < len → Arg8 w (A i) (L i) (C i) ((toB (Z i)).take (L i)) := by
      intro i hi
      obtain ⟨_, h2, h3, h4, h5, h6, h7⟩ := hcell i (by omega)
      have hC : C i ≤ 140737488351232 := by
        cases hA : A i with
        | none => have := h6 hA; omega
        | some a' =>
          have h8 := hwe (Deep.intRow .u8 (A i) (L i) (Z i)) (List.mem_map.2 ⟨i, List.mem_range.2 hi, rfl⟩)
          unfold Deep.intRow at h8
          rw [hA] at h8
          have h9 := weight_of_slice he h8
          rw [bq] at h9
          simp [lits] at h9
          omega
      refine ⟨?_, h6, h2, hC⟩
      cases hA : A i with
      | none =>
        have := h6 hA
        have h0 : L i = 0 := by omega
        rw [h0]
        exact Row8.nil _ _
      | some a' => exact row8_of_ints (by omega) (by omega) (fun j hj => (h7 a' hA).2 j (by omega)) h5
    refine ⟨some a, len, cap, (List.range len).map fun i => (toB (Z i)).take (L i), hv, by simp, (fun h => by cases h), hl, by omega, ?_⟩
    by_cases h0 : len = 0
    · left; subst h0; rfl
    · right
      have hsp : a.spot = none := by
        have h1 := (hcell 0 (by omega)).1
        unfold World.cell? at h1
        split at h1
        · next c t fr hb =>
          by_cases hs : (a.add 0).spot.isSome = true
          · rw [if_pos hs] at h1; cases h1
          · simpa [Addr.add] using hs
        · cases h1
      refine ⟨a.block, a.off, by cases a; simp_all, fun i hi => ?_⟩
      have hi' : i < len := by simpa using hi
      refine ⟨A i, L i, C i, ?_, ?_⟩
      · have h1 := (hcell i (by omega)).1
        have hadd : a.add i = ⟨a.block, a.off + i, none⟩ := by
          unfold Addr.add
          split
          · next h => subst h; cases a; simp_all
          · simp_all
        rwa [hadd] at h1
      · rw [List.getElem_map, List.getElem_range]
        exact each i hi'
end
end Go.Proofs.Ytanpamcecaoanaa

/-
  More of what is said of operations' values in a region whose order is open: slices of bytes and of rows that may be appended. No program is named here.
-/
namespace Go.Proofs.Ytanpamcecaoanaa
set_option maxRecDepth 100000
open Go.RowKit

theorem Arg8.marks {w w' : World} {a : Option Addr} {l c : Nat} {bs : List UInt8} (h : Arg8 w a l c bs) (k : Marks w w') : Arg8 w' a l c bs := ⟨h.row.marks k, h.nil, h.le, h.small⟩
theorem ArgR.marks {w w' : World} {a : Option Addr} {l c : Nat} {L : List (List UInt8)} (h : ArgR w a l c L) (k : Marks w w') : ArgR w' a l c L := by
  refine ⟨h.len_eq, h.nil, h.le, h.small, ?_⟩
  rcases h.cells with h1 | ⟨c, off, rfl, hc⟩
  · exact .inl h1
  · refine .inr ⟨c, off, rfl, fun i hi => ?_⟩
    obtain ⟨a', l', c', h2, h3⟩ := hc i hi
    exact ⟨a', l', c', k.cell h2, h3.marks k⟩
theorem ArgR.two {w : World} {e : TypeId} {a a2 : Option Addr} {l c l2 c2 : Nat} {bs bs2 : List UInt8} (h : Arg8 w a l c bs) (h2 : Arg8 w a2 l2 c2 bs2) :
    ArgR (w.alloc (.cells #[.slice a l c, .slice a2 l2 c2] e)) (some ⟨w.heap.size, 0, none⟩) 2 2 [bs, bs2] := by
  refine ⟨rfl, (fun e => by cases e), Nat.le_refl _, by simp, .inr ⟨w.heap.size, 0, rfl, fun i hi => ?_⟩⟩
  have hb := Below.alloc (Below.refl w.heap.size w) (Nat.le_refl _) (.cells #[.slice a l c, .slice a2 l2 c2] e)
  rw [Nat.zero_add, cell_of_row _ _ i _ _ _ (Blk.new w _ e)]
  match i, hi with
  | 0, _ => exact ⟨a, l, c, rfl, h.below hb⟩
  | 1, _ => exact ⟨a2, l2, c2, rfl, h2.below hb⟩
  | n + 2, hi => exact absurd hi (by simp)

theorem ArgR.three {w : World} {e : TypeId} {a a2 a3 : Option Addr} {l c l2 c2 l3 c3 : Nat} {bs bs2 bs3 : List UInt8} (h : Arg8 w a l c bs) (h2 : Arg8 w a2 l2 c2 bs2) (h3 : Arg8 w a3 l3 c3 bs3) :
    ArgR (w.alloc (.cells #[.slice a l c, .slice a2 l2 c2, .slice a3 l3 c3] e)) (some ⟨w.heap.size, 0, none⟩) 3 3 [bs, bs2, bs3] := by
  refine ⟨rfl, (fun e => by cases e), Nat.le_refl _, by simp, .inr ⟨w.heap.size, 0, rfl, fun i hi => ?_⟩⟩
  have hb := Below.alloc (Below.refl w.heap.size w) (Nat.le_refl _) (.cells #[.slice a l c, .slice a2 l2 c2, .slice a3 l3 c3] e)
  rw [Nat.zero_add, cell_of_row _ _ i _ _ _ (Blk.new w _ e)]
  match i, hi with
  | 0, _ => exact ⟨a, l, c, rfl, h.below hb⟩
  | 1, _ => exact ⟨a2, l2, c2, rfl, h2.below hb⟩
  | 2, _ => exact ⟨a3, l3, c3, rfl, h3.below hb⟩
  | n + 3, hi => exact absurd hi (by simp)
/-- a block of bytes, as an argument -/
theorem Arg8.ofBlk {w : World} {g n : Nat} {bs : List UInt8} {t : TypeId} (h : Blk w g (HC bs) t) (hn : n = bs.length) (hs : bs.length ≤ 1000) : Arg8 w (some ⟨g, 0, none⟩) n n bs :=
  ⟨⟨hn, by simp only [maxLen]; omega, .inr ⟨g, 0, rfl, fun i hi => by rw [Nat.zero_add]; exact (h.cell i).trans (HC_get_lt bs i hi)⟩⟩, (fun e => by cases e), Nat.le_refl _, by omega⟩

/-- operation i's value is a slice of rows, that has no spare below nil -/
def argsV (i n : Nat) (L : List (List UInt8)) : (Nat → Value) → World → Prop := fun vals w => ∃ g, vals i = .slice (some ⟨g, 0, none⟩) n n ∧ ArgR w (some ⟨g, 0, none⟩) n n L
/-- .. is a slice of bytes -/
def bytesV (i : Nat) (bs : List UInt8) : (Nat → Value) → World → Prop := fun vals w => ∃ a c, vals i = .slice a bs.length c ∧ Row8 w a bs.length bs ∧ (a = none → c = 0)
theorem st_args (i n : Nat) (L : List (List UInt8)) : StM (argsV i n L) := fun _ _ _ hb ⟨g, h1, h2⟩ => ⟨g, h1, h2.marks hb⟩
theorem st_bytes (i : Nat) (bs : List UInt8) : StM (bytesV i bs) := fun _ _ _ hb ⟨a, c, h1, h2, h3⟩ => ⟨a, c, h1, h2.marks hb, h3⟩
theorem sel_args {ks : List Nat} {vals : Nat → Value} {i n : Nat} {L : List (List UInt8)} {w : World} (h : ks.contains i = true) : argsV i n L (sel ks vals) w ↔ argsV i n L vals w := by
  unfold argsV sel; rw [if_pos h]
theorem sel_bytes {ks : List Nat} {vals : Nat → Value} {i : Nat} {bs : List UInt8} {w : World} (h : ks.contains i = true) : bytesV i bs (sel ks vals) w ↔ bytesV i bs vals w := by
  unfold bytesV sel; rw [if_pos h]
theorem mk_args {x : Value} {i n : Nat} {ks : List Nat} {L : List (List UInt8)} {vals : Nat → Value} {w : World} (g : Nat) (h : x = .slice (some ⟨g, 0, none⟩) n n) (hb : ArgR w (some ⟨g, 0, none⟩) n n L) : argsV i n L (sel (i :: ks) fun j => if j = i then x else vals j) w :=
  ⟨g, sel_own.trans h, hb⟩
theorem mk_bytes {x : Value} {i : Nat} {ks : List Nat} {bs : List UInt8} {vals : Nat → Value} {w : World} (a : Option Addr) (c : Nat) (h : x = .slice a bs.length c) (hb : Row8 w a bs.length bs) (hn : a = none → c = 0) : bytesV i bs (sel (i :: ks) fun j => if j = i then x else vals j) w :=
  ⟨a, c, sel_own.trans h, hb, hn⟩
theorem lit_mark (w : World) (bs : List UInt8) (cs : Array Value) (hcs : cs = HC bs) (t : TypeId) (n : Nat) :
    Below w.heap.size w ((w.alloc (.cells cs t)).freeze ⟨w.heap.size, n, none⟩ 1) ∧ ∃ fr, ((w.alloc (.cells cs t)).freeze ⟨w.heap.size, n, none⟩ 1).heap[w.heap.size]? = some (.cells (HC bs) t fr) := by
  subst hcs
  have h := Grows.freeze (B := w.heap.size) (w.alloc (.cells (HC bs) t)) w.heap.size n 1 (Nat.le_refl _)
  exact ⟨((Below.refl _ w).next (Nat.le_refl _) _).trans h.below, h.marks _ _ _ _ (Blk.new w (HC bs) t)⟩
theorem Arg8.ofCells {w : World} {g n : Nat} {bs : List UInt8} {t : TypeId} {fr : Nat × Nat} (h : w.heap[g]? = some (.cells (HC bs) t fr)) (hn : n = bs.length) (hs : bs.length ≤ 1000) : Arg8 w (some ⟨g, 0, none⟩) n n bs :=
  ⟨Row8.ofCells h hn (by simp only [maxLen]; omega), (fun e => by cases e), Nat.le_refl _, by omega⟩
end Go.Proofs.Ytanpamcecaoanaa

/-
  Bytes as a string. No program is named here.
-/
namespace Go.Proofs.Ytanpamcecaoanaa
set_option maxRecDepth 100000
open Go.RowKit

/-- bytes that a slice reads as, as a string -/
def strB (bs : List UInt8) : ByteArray := ⟨bs.toArray⟩
theorem Row8.str {P : Program} {w : World} {a : Option Addr} {l : Nat} {bs : List UInt8} (h : Row8 w a l bs) (src dst e : TypeId) (c : Nat) (hs : P.underlying src = some (.slice e)) (he : P.underlying e = some (.int .u8)) (hd : P.underlying dst = some .string) :
    (convert src dst (.slice a l c)).run P w = .ok (.string (strB bs)) w := by
  have hl := h.len_eq
  subst hl
  rcases h.cells with h0 | ⟨b, off, rfl, hc⟩
  · subst h0
    rw [List.length_nil, run_convert_bytes_string w src dst e a 0 c hs he hd]
    cases a <;> simp [Conv.bytesToString, loadCells, strB] <;> rfl
  · rw [run_convert_bytes_arg w src e hs he b off bs.length c (bs.map Bt) (by simp) (fun i hi => by rw [hc i hi]; simp [List.getD, List.getElem?_eq_getElem hi]) dst hd]
    have e1 : (bs.map Bt).map (fun n => UInt8.ofNat n.toNat) = bs := by
      rw [List.map_map]
      conv => rhs; rw [← List.map_id bs]
      exact List.map_congr_left fun x _ => by simp [Bt]
    unfold strB strOfNums
    rw [e1]
end Go.Proofs.Ytanpamcecaoanaa

/-
  What a slice of whole numbers is, as an argument. No program is named here.
-/
namespace Go.Proofs.Ytanpamcecaoanaa
set_option maxRecDepth 100000
open Go.RowKit Go.ChangeShapes Go.WideShapes
set_option linter.unusedVariables false

structure ArgI (w : World) (a : Option Addr) (l c : Nat) (zs : List Int) : Prop where
  len_eq : l = zs.length
  nil : a = none → c = 0
  le : l ≤ c
  small : c ≤ 140737488351232
  cells : zs = [] ∨ ∃ b off, a = some ⟨b, off, none⟩ ∧ ∀ (i : Nat) (h : i < zs.length), w.cell? ⟨b, off + i, none⟩ = some (.int .i64 zs[i]) ∧ (Lit.int .i64 zs[i]).wf = true
theorem ArgI.below {w w' : World} {a : Option Addr} {l c : Nat} {zs : List Int} (h : ArgI w a l c zs) (b : Below w.heap.size w w') : ArgI w' a l c zs := by
  refine ⟨h.len_eq, h.nil, h.le, h.small, ?_⟩
  rcases h.cells with h1 | ⟨g, off, rfl, hc⟩
  · exact .inl h1
  · exact .inr ⟨g, off, rfl, fun i hi => ⟨(b.cell (block_lt_of_cell (hc i hi).1)).trans (hc i hi).1, (hc i hi).2⟩⟩
theorem ArgI.at_ {w : World} {a : Option Addr} {l c : Nat} {zs : List Int} (h : ArgI w a l c zs) (i : Nat) (hi : i < zs.length) : ∃ b off, a = some ⟨b, off, none⟩ ∧ w.cell? ⟨b, off + i, none⟩ = some (.int .i64 zs[i]) ∧ (Lit.int .i64 zs[i]).wf = true := by
  rcases h.cells with h1 | ⟨g, off, h2, hc⟩
  · subst h1; simp at hi
  · exact ⟨g, off, h2, hc i hi⟩

section
variable {H : Type} {enc : TypeId × Value → H} {P : Program} {w : World} {base b0 : Nat} {held : Bool}
theorem argI_of_ints {a : Addr} {n c : Nat} {zs : List Int} (hn : n ≤ zs.length) (hl : n ≤ c) (hs : c ≤ 140737488351232) (hcell : ∀ i, i < zs.length → w.cell? (a.add i) = some (.int .i64 (zs.getD i 0))) (hw : ∀ z ∈ zs, (Lit.int .i64 z).wf = true) :
    ArgI w (some a) n c (zs.take n) := by
  have hlen : (zs.take n).length = n := by rw [List.length_take]; omega
  refine ⟨hlen.symm, (fun h => by cases h), hl, hs, ?_⟩
  by_cases h0 : n = 0
  · left; subst h0; simp
  · right
    have hsp : a.spot = none := by
      have h1 := hcell 0 (by omega)
      unfold World.cell? at h1
      split at h1
      · next c t fr hb =>
        by_cases hs : (a.add 0).spot.isSome = true
        · rw [if_pos hs] at h1; cases h1
        · simpa [Addr.add] using hs
      · cases h1
    refine ⟨a.block, a.off, by cases a; simp_all, fun i hi => ?_⟩
    rw [hlen] at hi
    have h1 := hcell i (by omega)
    have hadd : a.add i = ⟨a.block, a.off + i, none⟩ := by
      unfold Addr.add
      split
      · next h => subst h; cases a; simp_all
      · simp_all
    rw [hadd] at h1
    have hiz : i < zs.length := by omega
    have e : (zs.take n)[i] = zs[i] := by simp
    rw [e]
    refine ⟨?_, hw _ (List.getElem_mem hiz)⟩
    rw [h1, List.getD_eq_getElem?_getD, List.getElem?_eq_getElem hiz, Option.getD_some]

theorem open_nums {r : Reach} {t e : TypeId} {v : Value} {d : DataW H} {ps : List MemPlace} (ht : P.underlying t = some (.slice e)) (hu : P.underlying e = some (.int .i64)) (hc : P.cellsOf e = 1) (hby : P.bytesOf e = 8)
    (hval : Value.okWide P w r b0 t v) (h : DataW.Trod enc P w base (fun _ => true) held t v d ps) (hlt : ∀ n ∈ d.weights P t, n ≤ 140737488351232) : ∃ a l c zs, v = .slice a l c ∧ ArgI w a l c zs := by
  unfold Value.okWide at hval
  rw [ht] at hval
  obtain ⟨fuel, hf⟩ := h
  rcases open_ints ht hu hc hf with ⟨hcs, _⟩ | ⟨a, len, cap, zs, hcs, _, hl, hm, hz, hx, hcell, hw⟩
  · have : v = .slice none 0 0 := by cases v <;> simp_all [Value.cells, Cell.okWide, Cell.ok]
    exact ⟨none, 0, 0, [], this, rfl, fun _ => rfl, Nat.le_refl _, Nat.zero_le _, .inl rfl⟩
  · have : v = .slice (some a) len cap := by cases v <;> simp_all [Value.cells, Cell.okWide, Cell.ok]
    simp only [if_true] at hz
    simp only [Prod.mk.injEq] at hx
    rw [hx.1] at hlt
    have hwt := weight_of_slice ht hlt
    rw [hby] at hwt
    simp [lits] at hwt
    exact ⟨some a, len, cap, _, this, argI_of_ints (by omega) hl (by omega) hcell hw⟩

/-- a struct of two whole numbers -/
theorem open_ii {r : Reach} {t : TypeId} {f0 f1 : Field} {v : Value} {d : DataW H} {ps : List MemPlace} (ht : P.underlying t = some (.struct #[f0, f1])) (hu0 : P.underlying f0.type = some (.int .i64)) (hu1 : P.underlying f1.type = some (.int .i64))
    (hc0 : P.cellsOf f0.type = 1) (hc1 : P.cellsOf f1.type = 1) (ho0 : f0.offset = 0) (ho1 : f1.offset = 1) (hct : P.cellsOf t = 2)
    (hval : Value.okWide P w r b0 t v) (h : DataW.Trod enc P w base (fun _ => true) held t v d ps) : ∃ x y : Int, v = .agg #[.int .i64 x, .int .i64 y] ∧ (Lit.int .i64 x).wf = true ∧ (Lit.int .i64 y).wf = true := by
  unfold Value.okWide at hval
  rw [ht] at hval
  obtain ⟨cs, rfl, hsz, _⟩ := hval
  obtain ⟨fuel, hf⟩ := h
  obtain ⟨y0, y1, n, _, hl, h0, h1⟩ := trod_struct2 ht hf
  obtain ⟨x, hx, _, wx⟩ := DataW.trod_int hu0 h0
  obtain ⟨y, hy, _, wy⟩ := DataW.trod_int hu1 h1
  rw [hct] at hl
  rw [hc0, ho0] at hx
  rw [hc1, ho1] at hy
  refine ⟨x, y, ?_, wx, wy⟩
  obtain ⟨l⟩ := cs
  match l, hl with
  | [a, b], _ =>
    simp [Value.cells] at hx hy
    rw [hx, hy]
end
end Go.Proofs.Ytanpamcecaoanaa

/-
  A region whose order is open, by ONE INVARIANT over which of its operations are done, what they came to, and the world: for regions that write. No program is named here.
-/
namespace Go.Proofs.Ytanpamcecaoanaa
set_option maxRecDepth 100000
open Go.RowKit
set_option linter.unusedVariables false

section
variable {P : Program}
/-- one more is done -/
def add1 (S : Nat → Bool) (i : Nat) : Nat → Bool := fun j => decide (j = i) || S j
theorem add1_same (S : Nat → Bool) (i : Nat) : add1 S i i = true := by simp [add1]
theorem add1_other (S : Nat → Bool) {i j : Nat} (h : j ≠ i) : add1 S i j = S j := by simp [add1, h]

/-- what is to be shown of each operation -/
def obsInv (P : Program) (ops : Array Oper) (J : (Nat → Bool) → (Nat → Value) → World → Prop) (D : List (List Nat)) (a0 : Act) : Nat → List Oper → Prop
  | _, [] => True
  | i, o :: r => (∀ S vals w, J S vals w → S i = false → (∀ j ∈ D.getD i [], S j = true) → (∀ k, S k = true → ∀ j ∈ D.getD k [], S j = true) →
      opRuns P ops (fun _ _ => True) o (putAll ops vals (D.getD i []) a0) w fun v w' => J (add1 S i) (fun j => if j = i then v else vals j) w') ∧ obsInv P ops J D a0 (i + 1) r
theorem obsInv_get {ops : Array Oper} {J : (Nat → Bool) → (Nat → Value) → World → Prop} {D : List (List Nat)} {a0 : Act} : ∀ {l : List Oper} {k i : Nat} {o : Oper}, obsInv P ops J D a0 k l → l[i]? = some o →
    ∀ S vals w, J S vals w → S (k + i) = false → (∀ j ∈ D.getD (k + i) [], S j = true) → (∀ k, S k = true → ∀ j ∈ D.getD k [], S j = true) →
      opRuns P ops (fun _ _ => True) o (putAll ops vals (D.getD (k + i) []) a0) w fun v w' => J (add1 S (k + i)) (fun j => if j = k + i then v else vals j) w'
  | [], _, _, _, _, h => by simp at h
  | o' :: r, k, 0, o, h, ho => by
    simp only [List.getElem?_cons_zero, Option.some.injEq] at ho
    subst ho
    exact h.1
  | o' :: r, k, i + 1, o, h, ho => by
    have := obsInv_get (k := k + 1) (i := i) h.2 (by simpa using ho)
    rw [show k + 1 + i = k + (i + 1) by omega] at this
    exact this

section
variable {l : List Oper} {J : (Nat → Bool) → (Nat → Value) → World → Prop} {D : List (List Nat)} {a0 : Act} {w0 : World}

/-- from where a run of the region stands, whatever order follows -/
theorem any_of_inv {Q : Exit → Act → World → Prop} (hs : Region.noSelect l.toArray = true) (hall : ∀ (i : Nat) (o : Oper), l[i]? = some o → Fits l D i o)
    (hobs : obsInv P l.toArray J D a0 0 l)
    (hend : ∀ vals w, J (fun j => decide (j < l.length)) vals w → Q .normal (putAll l.toArray vals (List.range l.length) a0) w) :
    ∀ (fuel : Nat) (listed : Array Bool) (a : Act) (w : World) (vals : Nat → Value), Stands l (fun _ _ => True) (phi [] D) D a0 w0 listed a w vals → J (fun j => listed.getD j false) vals w → ((List.range l.length).filter fun i => !listed.getD i false).length ≤ fuel →
      wpAny P .any l.toArray Q fuel listed a w := by
  have full : ∀ (listed : Array Bool) (a : Act) (w : World) (vals : Nat → Value), Stands l (fun _ _ => True) (phi [] D) D a0 w0 listed a w vals → J (fun j => listed.getD j false) vals w → (∀ i, i < l.length → listed.getD i false = true) → Q .normal a w := by
    intro listed a w vals S hJ hl
    have eS : (fun j => listed.getD j false) = fun j => decide (j < l.length) := by
      funext j
      by_cases hj : j < l.length
      · rw [hl j hj, decide_eq_true hj]
      · rw [decide_eq_false hj]
        have : ¬ j < listed.size := by rw [S.size]; exact hj
        simp [this]
    rw [eS] at hJ
    have e : a = putAll l.toArray vals (List.range l.length) a0 := by
      refine Act.ext' (Array.ext_getElem? fun t => ?_) (by rw [S.defs, putAll_def])
      by_cases hw : ∃ j, dstOf l j = some t
      · obtain ⟨j, hj⟩ := hw
        by_cases hsz : t < a0.tmps.size
        · rw [S.new j t (hl j (dstOf_lt hj)) hj hsz, putAll_some _ _ t j (by rw [dst_arr]; exact hj) (fun k hk => by rw [dst_arr] at hk; exact uniq hall hk hj) _ _ hsz (List.mem_range.2 (dstOf_lt hj))]
        · rw [Array.getElem?_eq_none (Nat.le_of_not_lt (by rw [S.tsize]; exact hsz)), Array.getElem?_eq_none (Nat.le_of_not_lt (by rw [putAll_size]; exact hsz))]
      · rw [S.old t (fun j _ hd => hw ⟨j, hd⟩), putAll_none]
        intro k _ hd
        rw [dst_arr] at hd
        exact hw ⟨k, hd⟩
    rw [e]
    exact hend vals w hJ
  have least : ∀ (listed : Array Bool), Region.ready .any l.toArray listed = [] → listed.size = l.length → ∀ i, i < l.length → listed.getD i false = true := by
    intro listed hr hsz i
    induction i using Nat.strongRecOn with
    | ind i ih =>
      intro hi
      rcases hb : listed.getD i false with _ | _
      · exfalso
        have hrd : i ∈ Region.ready .any l.toArray listed := by
          rw [mem_ready]
          refine ⟨?_, l[i], by simp [hi], fun e he hbe => ?_⟩
          · have : i < listed.size := by omega
            simp [this] at hb ⊢; exact hb
          · have h1 := (hall i l[i] (List.getElem?_eq_getElem hi)).aft e he hbe
            exact ih e.on h1 (by omega)
        rw [hr] at hrd; cases hrd
      · rfl
  intro fuel
  induction fuel with
  | zero =>
    intro listed a w vals S hJ hf
    have hl : ∀ i, i < l.length → listed.getD i false = true := by
      intro i hi
      rcases hb : listed.getD i false with _ | _
      · have : i ∈ (List.range l.length).filter fun i => !listed.getD i false := List.mem_filter.2 ⟨List.mem_range.2 hi, by rw [hb]; rfl⟩
        rw [List.length_eq_zero_iff.1 (Nat.le_zero.1 hf)] at this; cases this
      · rfl
    refine ⟨?_, full listed a w vals S hJ hl⟩
    apply List.eq_nil_iff_forall_not_mem.2
    intro i hi
    obtain ⟨h0, o, ho, _⟩ := mem_ready.1 hi
    have hil : i < l.length := by have := (Array.getElem?_eq_some_iff.1 ho).1; simpa using this
    have h1 := hl i hil
    have : i < listed.size := by rw [S.size]; exact hil
    simp [this] at h0 h1
    rw [h0] at h1; cases h1
  | succ fuel ih =>
    intro listed a w vals S hJ hf
    refine ⟨fun hr => full listed a w vals S hJ (least listed hr S.size), fun i hi => ?_⟩
    obtain ⟨h0, o, ho, haft⟩ := mem_ready.1 hi
    have hol : l[i]? = some o := by simpa using ho
    have hil : i < l.length := (List.getElem?_eq_some_iff.1 hol).1
    have hif : listed.getD i false = false := by
      have : i < listed.size := by rw [S.size]; exact hil
      simp [this] at h0 ⊢; exact h0
    have F := hall i o hol
    have hD : ∀ j ∈ D.getD i [], listed.getD j false = true := by
      intro j hj
      rcases F.dep j hj with ⟨e, he, hb, rfl⟩ | ⟨e, he, hb, h⟩
      · exact haft e he hb
      · exact S.closed e.on (haft e he hb) j h
    have hrun := obsInv_get hobs hol _ vals w hJ (by rw [Nat.zero_add]; exact hif) (by rw [Nat.zero_add]; exact hD) S.closed
    rw [Nat.zero_add] at hrun
    have hrun2 := opRuns_same (fun cs b => Region.noSelect_spec hs i o cs b ho) (S.look hall hol hD hif) hrun
    have hcount : ((List.range l.length).filter fun j => !(listed.setIfInBounds i true).getD j false).length ≤ fuel := by
      have := filter_fewer (p := fun j => !listed.getD j false) (q := fun j => !(listed.setIfInBounds i true).getD j false) (fun j hj => by
        rcases hb : listed.getD j false with _ | _
        · rfl
        · rw [getD_set_true hb] at hj; cases hj) (i := i) (by rw [hif]; rfl) (by
          have : i < listed.size := by rw [S.size]; exact hil
          simp [this]) (List.range l.length) (List.mem_range.2 hil)
      omega
    have hil2 : i < listed.size := by rw [S.size]; exact hil
    have eA : (fun j => (listed.setIfInBounds i true).getD j false) = add1 (fun j => listed.getD j false) i := by
      funext j
      unfold add1
      by_cases hji : j = i
      · subst hji
        rw [decide_eq_true rfl, Bool.true_or]; simp [hil2]
      · rw [decide_eq_false hji, Bool.false_or, getD_set_ne false (Ne.symm hji)]
    have next : ∀ v w', J (add1 (fun j => listed.getD j false) i) (fun j => if j = i then v else vals j) w' → wpAny P .any l.toArray Q fuel (listed.setIfInBounds i true) (a.put o.dst v) w' :=
      fun v w' hw => ih _ _ _ _ (S.step hall hol hD hif (fun _ _ => trivial) (fun φ hφ => by cases hφ) v w' trivial trivial) (by rw [eA]; exact hw) hcount
    unfold wpOp
    rw [ho]
    unfold opRuns at hrun2
    by_cases hwd : Region.wanted o (yielded l.toArray a.tmps) = true
    · simp only [hwd, if_true] at hrun2 ⊢
      refine .inl ?_
      unfold Oper.wp
      generalize (execOp a.eval o).run P w = r at hrun2 ⊢
      cases r with
      | ok n w' =>
        cases n <;> simp only [Oper.upon] at hrun2 ⊢
        case value v => rw [← put_keeps]; exact next _ w' hrun2.2
        case skip => exact next undef w' hrun2.2
        case row r args =>
          refine hrun2.mono fun v w'' he => ?_
          rw [← put_keeps]; exact next _ w'' he.2
        case enter f args =>
          refine hrun2.mono fun e w'' he => ?_
          obtain ⟨v, rfl, h1, h2⟩ := he
          show wpAny P .any l.toArray Q fuel (listed.setIfInBounds i true) (a.put o.dst v) w''
          rw [← put_keeps]; exact next _ w'' h2
      | halt x w' => simp only at hrun2
    · simp only [hwd, Bool.false_eq_true, if_false] at hrun2 ⊢
      exact next undef w hrun2

/-- THE LAW: a region whose order is open, by one invariant -/
theorem region_inv {id : Nat} {Q : Exit → Act → World → Prop} (J : (Nat → Bool) → (Nat → Value) → World → Prop) (D : List (List Nat)) (hm : P.follows .mixedOrders = true)
    (hs : Region.noSelect l.toArray = true) (hok : okTab l D = true) (h0 : J (fun _ => false) (fun _ => undef) w0.drew)
    (hobs : obsInv P l.toArray J D a0 0 l)
    (hend : ∀ vals w, J (fun j => decide (j < l.length)) vals w → Q .normal (putAll l.toArray vals (List.range l.length) a0) w) :
    (Code.region id l.toArray true).wp P Q a0 w0 := by
  refine wp_region_any hm (any_of_inv (w0 := w0.drew) (vals := fun _ => undef) hs (fun i o ho => okTab_fits hok ho) hobs hend _ _ _ _ ⟨by simp, trivial, fun _ _ => trivial, ?_, rfl, rfl, fun _ _ => rfl, ?_⟩ ?_ ?_)
  · intro j hj; rw [none_listed] at hj; cases hj
  · intro j t hj; rw [none_listed] at hj; cases hj
  · have : (fun j => (Array.replicate l.toArray.size false).getD j false) = fun _ => false := funext fun j => none_listed _ j
    rw [this]; exact h0
  · refine Nat.le_trans (List.length_filter_le _ _) ?_
    simp
end
end
end Go.Proofs.Ytanpamcecaoanaa
