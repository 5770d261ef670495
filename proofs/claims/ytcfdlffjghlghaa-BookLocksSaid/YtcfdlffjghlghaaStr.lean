/-
  Bytes as a string. No program is named here.
-/
import Derived.Test.YtcfdlffjghlghaaExt3
import Derived.Laws.BytesArg
namespace Go.Proofs.Ytcfdlffjghlghaa
set_option maxRecDepth 100000
open Go.RowKit

/-- bytes that a slice reads as, as a string -/
def strB (bs : List UInt8) : ByteArray := ⟨bs.toArray⟩
theorem Row8.str {P : Program} {w : World} {a : Option Addr} {l : Nat} {bs : List UInt8} (h : Row8 w a l bs) (src dst e : TypeId) (c : Nat) (hs : P.underlying src = some (.slice e)) (he : P.underlying e = some (.int .u8)) (hd : P.underlying dst = some .string) :
    (convert src dst (.slice a l c)).run P w = .ok (.string (strB bs)) w := by
  have hl := h.len_eq
  subst hl
  rcases h.cells with h0 | ⟨b, off, rfl, hc⟩
  · subst h0
    rw [List.length_nil, run_convert_bytes_string w src dst e a 0 c hs he hd]
    cases a <;> simp [Conv.bytesToString, loadCells, strB] <;> rfl
  · rw [run_convert_bytes_arg w src e hs he b off bs.length c (bs.map Bt) (by simp) (fun i hi => by rw [hc i hi]; simp [List.getD, List.getElem?_eq_getElem hi]) dst hd]
    have e1 : (bs.map Bt).map (fun n => UInt8.ofNat n.toNat) = bs := by
      rw [List.map_map]
      conv => rhs; rw [← List.map_id bs]
      exact List.map_congr_left fun x _ => by simp [Bt]
    unfold strB strOfNums
    rw [e1]
end Go.Proofs.Ytcfdlffjghlghaa
