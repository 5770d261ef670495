/-
  DERIVED. GIVEN WITH THE SEED: THE CARDS: each row of YtjdjelopkhjdnaaGreatDoorRows.lean that lists a variable, with what it lists TIED to the program's text (the seventh form; the later family's looks); each row that meets fmt, with fmt's text TOLD by the authors' own Lean function (tested against real Go, not proved from fmt's source: count such statements apart). THE CARD IS WHAT COUNTS. Prove the row's statement (the work); the ties are given (YtjdjelopkhjdnaaGreatDoorTie.lean); close each card by the builder's one call (the guide's Derived/Test/ToyasCard.lean, 'card_holds'). Laid BY PROGRAM, IN A SANDBOX (cutbox-door.mjs). By AI agents, Wed Nov 11 2026. No macro, syntax, notation, axiom, sorry.
-/
import Derived.Test.YtjdjelopkhjdnaaGreatDoorRows
import GoSem.ClaimSeven
namespace Go.Proofs.YtjdjelopkhjdnaaGreatDoor
namespace Rows

/-- THE TIED CARD OF 'curialaw13.PartyPlays'. -/
def partyPlaysCard : Claim7 := { stood := { row := partyPlaysRow, standIns := [], harness := (true, "7dfe8b0960f6db92b980d89153017cf2827d504e940524fab5ef5a0fad8f213d"), looks := false }, kinds := [], alts := [], laidByText := true, laidKinds := [.data, .data], laidTests := true, laidLooks := .later }
def PartyPlaysCardSaid : Prop := Claim7.holds Tryz.pinned (.plain (OpenSpec.ofChange partyPlaysSpec)) partyPlaysCard

/-- THE SECOND FORM's CARD OF 'curialaw13.PartyPlays'. -/
def partyPlaysUptoCard : Claim7 := { stood := { row := partyPlaysUptoRow, standIns := [], harness := (true, "7dfe8b0960f6db92b980d89153017cf2827d504e940524fab5ef5a0fad8f213d"), looks := false }, kinds := [], alts := [], laidByText := true, laidKinds := [.data, .data], laidTests := true, laidLooks := .later }
def PartyPlaysUptoCardSaid : Prop := Claim7.holds Tryz.pinned (.plain (OpenSpec.upto partyPlaysSpec)) partyPlaysUptoCard
end Rows
end Go.Proofs.YtjdjelopkhjdnaaGreatDoor
