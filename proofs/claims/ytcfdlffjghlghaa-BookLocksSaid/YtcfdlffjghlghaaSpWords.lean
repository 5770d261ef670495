/-
  The sponge in plain words: taking bytes, its end, the sum; and that padded eights come to the same. No program is named here.
-/
import Derived.Test.YtcfdlffjghlghaaWords
import Derived.Test.YtcfdlffjghlghaaMem
namespace Go.Proofs.Ytcfdlffjghlghaa
set_option maxRecDepth 100000
open Go.RowKit

/-- a byte as a word -/
def w8 (c : UInt8) : BitVec 64 := BitVec.ofNat 64 c.toNat
theorem U_w8 (c : UInt8) : U (w8 c) = Bt c := by
  have := c.toNat_lt
  unfold w8 Bt; rw [U_def, BitVec.toNat_ofNat, Nat.mod_eq_of_lt (by omega)]
theorem shl_w8 (c : UInt8) (n : Nat) : IntKind.u64.wrap (Bt c * 2 ^ n) = U (w8 c <<< n) := by rw [← U_w8, U_shl]
/-- one of a word's eight bytes, the highest first -/
def byteAt (w : BitVec 64) (j : Nat) : UInt8 := UInt8.ofNat ((w >>> (56 - 8 * j)).toNat)
theorem wrap_byteAt (w : BitVec 64) (j : Nat) : IntKind.u8.wrap (U w / 2 ^ (56 - 8 * j)) = Bt (byteAt w j) := by
  rw [U_shr, IntKind.wrap_u8, U_def]
  unfold byteAt Bt
  rw [UInt8.toNat_ofNat']
  rfl

/-- what has taken bytes -/
structure Sp where
  x : W5
  at_ : Nat
def takeB (s : Sp) (c : UInt8) : Sp :=
  let x : W5 := { s.x with a := s.x.a ^^^ (w8 c <<< (56 - 8 * s.at_)) }
  if s.at_ = 7 then ⟨turnW x, 0⟩ else ⟨x, s.at_ + 1⟩
def takes (s : Sp) (l : List UInt8) : Sp := l.foldl takeB s
theorem takes_snoc (s : Sp) (l : List UInt8) (c : UInt8) : takes s (l ++ [c]) = takeB (takes s l) c := by unfold takes; rw [List.foldl_append]; rfl
theorem takes_append (s : Sp) (l m : List UInt8) : takes s (l ++ m) = takes (takes s l) m := by unfold takes; rw [List.foldl_append]
theorem takeB_at (s : Sp) (c : UInt8) (h : s.at_ ≤ 7) : (takeB s c).at_ ≤ 7 := by
  unfold takeB
  by_cases h7 : s.at_ = 7
  · simp [h7]
  · simp [h7]; omega
theorem takes_at (l : List UInt8) : ∀ (s : Sp), s.at_ ≤ 7 → (takes s l).at_ ≤ 7 := by
  induction l with
  | nil => exact fun s h => h
  | cons c l ih => exact fun s h => ih _ (takeB_at s c h)
def tIter : Nat → W5 → W5
  | 0, x => x
  | n + 1, x => turnW (tIter n x)
def outB (x : W5) (n : Nat) : UInt8 := byteAt (tIter (n / 8 + 1) x).a (n % 8)
def outs (x : W5) : List UInt8 := (List.range 32).map (outB x)
/-- with the byte 80 taken -/
def lastW (s : Sp) : W5 := { s.x with a := s.x.a ^^^ (0x80#64 <<< (56 - 8 * s.at_)) }
def endW (s : Sp) : List UInt8 := outs (lastW s)
def beginW : Sp := ⟨turnW ⟨32, 0, 0, 0, 0⟩, 0⟩
def sumW (l : List UInt8) : List UInt8 := endW (takes beginW l)
theorem outs_length (x : W5) : (outs x).length = 32 := by simp [outs]
theorem sumW_length (l : List UInt8) : (sumW l).length = 32 := outs_length _
def deriveW (h : List UInt8) (label : List UInt8) (l : List UInt8) : List UInt8 := sumW (h ++ (UInt8.ofNat label.length :: label) ++ l)

/-- bytes as cells -/
def HC (l : List UInt8) : Array Value := (l.map fun b => Value.int .u8 (Bt b)).toArray
/-- a sum as a value -/
def HV (l : List UInt8) : Value := .agg (HC l)
theorem HC_size (l : List UInt8) : (HC l).size = l.length := by simp [HC]
theorem HC_get (l : List UInt8) (i : Nat) : (HC l)[i]? = (l[i]?).map fun b => Value.int .u8 (Bt b) := by simp [HC]
theorem HC_get_lt (l : List UInt8) (i : Nat) (h : i < l.length) : (HC l)[i]? = some (.int .u8 (Bt l[i])) := by rw [HC_get, List.getElem?_eq_getElem h]; rfl
theorem HC_set (l : List UInt8) (i : Nat) (b : UInt8) : (HC l).setIfInBounds i (.int .u8 (Bt b)) = HC (l.set i b) := by
  simp [HC, List.map_set]
theorem HC_inj {l m : List UInt8} (h : HC l = HC m) : l = m := by
  have h2 : l.map (fun b => Value.int .u8 (Bt b)) = m.map (fun b => Value.int .u8 (Bt b)) := by simpa [HC] using h
  refine List.map_inj_right (f := fun b => Value.int .u8 (Bt b)) (fun x y hxy => ?_) |>.1 h2
  injection hxy with _ h3
  exact Bt_inj h3

/-- where a list is written from its beginning on -/
theorem set_front (out : List UInt8) (n k : Nat) (hn : n < out.length) (hk : out.length = n + 1 + k) (z : List UInt8) (hz : z.length = k) (b : UInt8) :
    (out.take n ++ b :: z).set n out[n] = out.take (n + 1) ++ z := by
  rw [List.set_append_right _ _ (by rw [List.length_take]; omega), List.length_take, Nat.min_eq_left (by omega), Nat.sub_self, List.set_cons_zero, List.take_succ_eq_append_getElem hn, List.append_assoc]
  rfl

/-- a slice that reads as these bytes -/
structure Row8 (w : World) (a : Option Addr) (len : Nat) (bs : List UInt8) : Prop where
  len_eq : len = bs.length
  small : bs.length ≤ maxLen
  cells : bs = [] ∨ ∃ b off, a = some ⟨b, off, none⟩ ∧ ∀ (i : Nat) (h : i < bs.length), w.cell? ⟨b, off + i, none⟩ = some (.int .u8 (Bt bs[i]))
theorem Row8.nil (w : World) (a : Option Addr) : Row8 w a 0 [] := ⟨rfl, by simp, .inl rfl⟩
theorem Row8.mono {w w' : World} {a : Option Addr} {len : Nat} {bs : List UInt8} (h : Row8 w a len bs) (k : ∀ x v, w.cell? x = some v → a = some ⟨x.block, (a.getD default).off, none⟩ → w'.cell? x = some v) : Row8 w' a len bs := by
  refine ⟨h.len_eq, h.small, ?_⟩
  rcases h.cells with h1 | ⟨b, off, rfl, hc⟩
  · exact .inl h1
  · exact .inr ⟨b, off, rfl, fun i hi => k _ _ (hc i hi) (by simp)⟩
theorem Row8.below {w w' : World} {a : Option Addr} {len : Nat} {bs : List UInt8} (h : Row8 w a len bs) (b : Below w.heap.size w w') : Row8 w' a len bs :=
  h.mono fun _ _ hx _ => (b.cell (block_lt_of_cell hx)).trans hx
theorem Row8.grown {w w' : World} {a : Option Addr} {len : Nat} {bs : List UInt8} {g : Nat} (h : Row8 w a len bs) (k : w.grownBy w' (some g)) (hne : ∀ x : Addr, a = some x → x.block ≠ g) : Row8 w' a len bs :=
  h.mono fun _ _ hx ha => k.cell hx (fun e => hne _ ha (by injection e))
/-- a state as cells -/
abbrev C6 (s : Sp) : Array Value := #[.int .u64 (U s.x.a), .int .u64 (U s.x.b), .int .u64 (U s.x.c), .int .u64 (U s.x.d), .int .u64 (U s.x.e), .int .i64 s.at_]
theorem Blk.six {w : World} {g : Nat} {t : TypeId} {a b c d e f : Value} (h : Blk w g #[a, b, c, d, e, f] t) :
    w.cell? ⟨g, 0, none⟩ = some a ∧ w.cell? ⟨g, 1, none⟩ = some b ∧ w.cell? ⟨g, 2, none⟩ = some c ∧ w.cell? ⟨g, 3, none⟩ = some d ∧ w.cell? ⟨g, 4, none⟩ = some e ∧ w.cell? ⟨g, 5, none⟩ = some f :=
  ⟨h.cell 0, h.cell 1, h.cell 2, h.cell 3, h.cell 4, h.cell 5⟩
end Go.Proofs.Ytcfdlffjghlghaa
