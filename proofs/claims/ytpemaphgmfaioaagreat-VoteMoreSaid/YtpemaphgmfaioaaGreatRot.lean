/-
  The walks of turning a word: bits.RotateLeft64, sponge.twice, and the document's right.
-/
import Derived.Test.YtpemaphgmfaioaaGreatChecked
import Derived.Test.YtpemaphgmfaioaaGreatHBase
namespace Go.Proofs.YtpemaphgmfaioaaGreat
set_option maxRecDepth 100000
open Go.RowKit

theorem ret_u64 {a b : Int} (h : a = b) : Ending.returned (.int .u64 a) = .returned (.int .u64 b) := by rw [h]

theorem rot_any (x : BitVec 64) (n : Int) (r l : Nat) (hl : l + r = 64) (h1 : 1 ≤ r) (h2 : 1 ≤ l) (hn : bits .and .u64 (IntKind.u64.wrap n) 63 = (l : Int)) (w : World) :
    Calls Tryz.prog 125 #[.int .u64 (U x), .int .i64 n] w fun e w' => e = .returned (.int .u64 (U (x.rotateRight r))) ∧ w = w' := by
  have hl1 : (l : Int) ≤ 63 := by omega
  have HL := Lib.hid hl; clear hl
  go_enter Tryz.func125, Tryz.ntmps125
  go_wp2
  go_ret
  refine ⟨ret_u64 ?_, rfl⟩
  have e1 := HL.out
  have e2 : 64 - l = r := by omega
  have e3 : l = 64 - r := by omega
  rw [U_shl, e2, U_shr, U_or, e3, U_rotl x r (by omega)]

theorem twice_any (x : BitVec 64) (m n : Nat) (hm1 : 1 ≤ m) (hm2 : m ≤ 63) (hn1 : 1 ≤ n) (hn2 : n ≤ 63)
    (km : bits .and .u64 (IntKind.u64.wrap (-(m : Int))) 63 = ((64 - m : Nat) : Int)) (kn : bits .and .u64 (IntKind.u64.wrap (-(n : Int))) 63 = ((64 - n : Nat) : Int)) (w : World) :
    Calls Tryz.prog 114 #[.int .u64 (U x), .int .i64 m, .int .i64 n] w fun e w' => e = .returned (.int .u64 (U (tw x m n))) ∧ w = w' := by
  have KM := Lib.hid km; clear km
  have KN := Lib.hid kn; clear kn
  have hx := fun a b => U_xor a b
  go_enter Tryz.func114, Tryz.ntmps114
  go_wp2_with fail
  refine (rot_any x _ m (64 - m) (by omega) hm1 (by omega) KM.out _).mono ?_
  rintro e w' ⟨rfl, rfl⟩
  go_wp2_with fail
  refine (rot_any x _ n (64 - n) (by omega) hn1 (by omega) KN.out _).mono ?_
  rintro e w' ⟨rfl, rfl⟩
  go_wp2_with fail
  go_ret
  exact ⟨ret_u64 rfl, rfl⟩

theorem right_any (x : BitVec 64) (n : Nat) (h1 : 1 ≤ n) (h2 : n ≤ 63) (w : World) :
    Calls Tryz.prog 108 #[.int .u64 (U x), .int .u64 n] w fun e w' => e = .returned (.int .u64 (U (x.rotateRight n))) ∧ w = w' := by
  have h3 : (n : Int) ≤ 63 := by omega
  go_enter Tryz.func108, Tryz.ntmps108
  go_wp2
  go_ret
  refine ⟨ret_u64 ?_, rfl⟩
  rw [U_shl, U_shr, U_or, U_rot x n (by omega)]
end Go.Proofs.YtpemaphgmfaioaaGreat
