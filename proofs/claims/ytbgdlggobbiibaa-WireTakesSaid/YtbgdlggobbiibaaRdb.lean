/-
  The other program's ToCommit: one contract.
-/
import Derived.Test.YtbgdlggobbiibaaRda
import Derived.Test.YtbgdlggobbiibaaRd9
namespace Go.Proofs.Ytbgdlggobbiibaa
set_option maxRecDepth 100000
open Go.RowKit Pm
set_option linter.unusedVariables false
set_option linter.unusedSimpArgs false
attribute [local irreducible] nmV nmN cntV cntN tkV tkN nmsV nmsN hashV numB numsB boxV boxN bxsV bxsN commitB commitN mayB okC

theorem rtoCommit_ok (b : List UInt8) (hb : b.length ≤ 6000) : FnO 5 [.row b.length [.bytes b.length b]] (okRes b) := by
  obtain ⟨N, M, B, he⟩ := ends_are b
  cases h0 : (s12 b N M B).bad with
  | false => exact rtoC_whole b hb N M B he h0
  | true =>
    rw [okRes_off (okC_bad he h0)]
    have hs := ends_small he hb
    have hl := lens_are b N M B
    rcases he.n3 with n | ⟨n, n'⟩
    · rcases he.m3 with m | ⟨m, m'⟩
      · rcases he.b3 with k | ⟨k, k'⟩
        · exact rtoB_eee b hb N M B he hs hl (by omega) (by omega) (by omega) h0
        · exact rtoB_eeb b hb N M B he hs hl (by omega) (by omega) k k' h0
      · rcases he.b3 with k | ⟨k, k'⟩
        · exact rtoB_ebe b hb N M B he hs hl (by omega) m m' (by omega) h0
        · exact rtoB_ebb b hb N M B he hs hl (by omega) m m' k k' h0
    · rcases he.m3 with m | ⟨m, m'⟩
      · rcases he.b3 with k | ⟨k, k'⟩
        · exact rtoB_bee b hb N M B he hs hl n n' (by omega) (by omega) h0
        · exact rtoB_beb b hb N M B he hs hl n n' (by omega) k k' h0
      · rcases he.b3 with k | ⟨k, k'⟩
        · exact rtoB_bbe b hb N M B he hs hl n n' m m' (by omega) h0
        · exact rtoB_bbb b hb N M B he hs hl n n' m m' k k' h0
end Go.Proofs.Ytbgdlggobbiibaa
