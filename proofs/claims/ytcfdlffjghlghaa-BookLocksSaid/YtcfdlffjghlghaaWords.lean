/-
  Words of 64 binary digits and bytes, as the program's numbers. No program is named here.
-/
import Derived.WalkKit
import Derived.ProofKit
import Derived.Lib.Hide
namespace Go.Proofs.Ytcfdlffjghlghaa
set_option maxRecDepth 100000
open Go.RowKit

/-- a word as a number -/
def U (x : BitVec 64) : Int := (x.toNat : Int)
/-- a byte as a number -/
def Bt (x : UInt8) : Int := (x.toNat : Int)
theorem U_def (x : BitVec 64) : U x = (x.toNat : Int) := rfl
theorem U_bd (x : BitVec 64) : 0 ≤ U x ∧ U x < 18446744073709551616 := by
  have := x.isLt; unfold U; omega
theorem Bt_bd (x : UInt8) : 0 ≤ Bt x ∧ Bt x < 256 := by
  have := x.toNat_lt; unfold Bt; omega
theorem U_inj {x y : BitVec 64} (h : U x = U y) : x = y := BitVec.eq_of_toNat_eq (Int.ofNat_inj.1 h)
theorem Bt_inj {x y : UInt8} (h : Bt x = Bt y) : x = y := UInt8.toNat_inj.1 (Int.ofNat_inj.1 h)
theorem U_beq (x y : BitVec 64) : (U x == U y) = (x == y) := by
  by_cases h : x = y
  · subst h; simp
  · rw [beq_eq_false_iff_ne.2 h, beq_eq_false_iff_ne.2 fun e => h (U_inj e)]
theorem Bt_beq (x y : UInt8) : (Bt x == Bt y) = (x == y) := by
  by_cases h : x = y
  · subst h; simp
  · rw [beq_eq_false_iff_ne.2 h, beq_eq_false_iff_ne.2 fun e => h (Bt_inj e)]
theorem ofInt_U (x : BitVec 64) : BitVec.ofInt 64 (U x) = x := by
  unfold U; rw [BitVec.ofInt_natCast, BitVec.ofNat_toNat, BitVec.setWidth_eq]
theorem wrap_U (x : BitVec 64) : IntKind.u64.wrap (x.toNat : Int) = U x := IntWalk.u64_in _ (by have := x.isLt; omega)
theorem U_xor (x y : BitVec 64) : bits .xor .u64 (U x) (U y) = U (x ^^^ y) := by
  show IntKind.u64.wrap ((BitVec.ofInt 64 (U x) ^^^ BitVec.ofInt 64 (U y)).toNat : Int) = _
  rw [ofInt_U, ofInt_U, wrap_U]
theorem U_and (x y : BitVec 64) : bits .and .u64 (U x) (U y) = U (x &&& y) := by
  show IntKind.u64.wrap ((BitVec.ofInt 64 (U x) &&& BitVec.ofInt 64 (U y)).toNat : Int) = _
  rw [ofInt_U, ofInt_U, wrap_U]
theorem U_or (x y : BitVec 64) : bits .or .u64 (U x) (U y) = U (x ||| y) := by
  show IntKind.u64.wrap ((BitVec.ofInt 64 (U x) ||| BitVec.ofInt 64 (U y)).toNat : Int) = _
  rw [ofInt_U, ofInt_U, wrap_U]
theorem U_not (x : BitVec 64) : bits .xor .u64 IntKind.u64.max (U x) = U (~~~x) := by
  show IntKind.u64.wrap ((BitVec.ofInt 64 IntKind.u64.max ^^^ BitVec.ofInt 64 (U x)).toNat : Int) = _
  rw [ofInt_U, show BitVec.ofInt 64 IntKind.u64.max = BitVec.allOnes 64 by decide, BitVec.allOnes_xor, wrap_U]
theorem U_shl (x : BitVec 64) (n : Nat) : IntKind.u64.wrap (U x * 2 ^ n) = U (x <<< n) := by
  rw [IntKind.wrap_u64, U_def, U_def, BitVec.toNat_shiftLeft, Nat.shiftLeft_eq]
  rfl
theorem U_shr (x : BitVec 64) (n : Nat) : U x / 2 ^ n = U (x >>> n) := by
  rw [U_def, U_def, BitVec.toNat_ushiftRight, Nat.shiftRight_eq_div_pow]
  rfl
theorem U_rot (x : BitVec 64) (n : Nat) (h : n < 64) : (x >>> n ||| x <<< (64 - n)) = x.rotateRight n := by
  rw [BitVec.rotateRight_def, Nat.mod_eq_of_lt h]
theorem U_rotl (x : BitVec 64) (n : Nat) (h : n < 64) : (x <<< (64 - n) ||| x >>> n) = x.rotateRight n := by
  rw [BitVec.or_comm, U_rot x n h]

/-- five words -/
structure W5 where
  a : BitVec 64
  b : BitVec 64
  c : BitVec 64
  d : BitVec 64
  e : BitVec 64
deriving DecidableEq

/-- five words as an array of the program's -/
abbrev V5 (x : W5) : Value := .agg #[.int .u64 (U x.a), .int .u64 (U x.b), .int .u64 (U x.c), .int .u64 (U x.d), .int .u64 (U x.e)]

/-- a word xored with itself turned right by two numbers -/
def tw (x : BitVec 64) (m n : Nat) : BitVec 64 := x ^^^ x.rotateRight m ^^^ x.rotateRight n
def spreadW (x : W5) : W5 := ⟨tw x.a 19 28, tw x.b 61 39, tw x.c 1 6, tw x.d 10 17, tw x.e 7 41⟩
/-- the words meet, digit by digit -/
def mixW (x : W5) : W5 :=
  let a := x.a ^^^ x.e
  let e := x.e ^^^ x.d
  let c := x.c ^^^ x.b
  let b := x.b
  let d := x.d
  let ta := ~~~a &&& b
  let tb := ~~~b &&& c
  let tc := ~~~c &&& d
  let td := ~~~d &&& e
  let te := ~~~e &&& a
  let a := a ^^^ tb
  let b := b ^^^ tc
  let c := c ^^^ td
  let d := d ^^^ te
  let e := e ^^^ ta
  let b := b ^^^ a
  let a := a ^^^ e
  let d := d ^^^ c
  let c := ~~~c
  ⟨a, b, c, d, e⟩
def rndW (r : Nat) (x : W5) : W5 := spreadW (mixW { x with c := x.c ^^^ BitVec.ofNat 64 (240 - 15 * r) })
def turnN : Nat → W5 → W5
  | 0, x => x
  | n + 1, x => rndW n (turnN n x)
def turnW (x : W5) : W5 := turnN 12 x
end Go.Proofs.Ytcfdlffjghlghaa
