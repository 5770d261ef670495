/-
  DERIVED. GIVEN WITH THE SEED: THE CARDS: each row of YtefgbmdmmhkeaaaGreatDoorRows.lean that lists a variable, with what it lists TIED to the program's text (the seventh form; the later family's looks); each row that meets fmt, with fmt's text TOLD by the authors' own Lean function (tested against real Go, not proved from fmt's source: count such statements apart). THE CARD IS WHAT COUNTS. Prove the row's statement (the work); the ties are given (YtefgbmdmmhkeaaaGreatDoorTie.lean); close each card by the builder's one call (the guide's Derived/Test/ToyasCard.lean, 'card_holds'). Laid BY PROGRAM, IN A SANDBOX (cutbox-door.mjs). By AI agents, Wed Nov 11 2026. No macro, syntax, notation, axiom, sorry.
-/
import Derived.Test.YtefgbmdmmhkeaaaGreatDoorRows
import GoSem.ClaimSeven
namespace Go.Proofs.YtefgbmdmmhkeaaaGreatDoor
namespace Rows

/-- THE TIED CARD OF 'curialaw14.WorldOfNothing'. -/
def worldOfNothingCard : Claim7 := { stood := { row := worldOfNothingRow, standIns := [], harness := (true, "0da1660f024ee774febe1c0edc1be3db180d3358db132a53702e83952d99b9ee"), looks := false }, kinds := [], alts := [], laidByText := true, laidKinds := [.data, .data], laidTests := true, laidLooks := .later }
def WorldOfNothingCardSaid : Prop := Claim7.holds Tryz.pinned (.plain (OpenSpec.ofChange worldOfNothingSpec)) worldOfNothingCard

/-- THE SECOND FORM's CARD OF 'curialaw14.WorldOfNothing'. -/
def worldOfNothingUptoCard : Claim7 := { stood := { row := worldOfNothingUptoRow, standIns := [], harness := (true, "0da1660f024ee774febe1c0edc1be3db180d3358db132a53702e83952d99b9ee"), looks := false }, kinds := [], alts := [], laidByText := true, laidKinds := [.data, .data], laidTests := true, laidLooks := .later }
def WorldOfNothingUptoCardSaid : Prop := Claim7.holds Tryz.pinned (.plain (OpenSpec.upto worldOfNothingSpec)) worldOfNothingUptoCard
end Rows
end Go.Proofs.YtefgbmdmmhkeaaaGreatDoor
