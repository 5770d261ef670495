/-
  DERIVED. GIVEN WITH THE SEED: THE CARDS: each row of YtbdmnobocecnfaaGreatDoorRows.lean that lists a variable, with what it lists TIED to the program's text (the seventh form; the later family's looks); each row that meets fmt, with fmt's text TOLD by the authors' own Lean function (tested against real Go, not proved from fmt's source: count such statements apart). THE CARD IS WHAT COUNTS. Prove the row's statement (the work); the ties are given (YtbdmnobocecnfaaGreatDoorTie.lean); close each card by the builder's one call (the guide's Derived/Test/ToyasCard.lean, 'card_holds'). Laid BY PROGRAM, IN A SANDBOX (cutbox-door.mjs). By AI agents, Wed Nov 11 2026. No macro, syntax, notation, axiom, sorry.
-/
import Derived.Test.YtbdmnobocecnfaaGreatDoorRows
import GoSem.ClaimSeven
namespace Go.Proofs.YtbdmnobocecnfaaGreatDoor
namespace Rows

/-- THE TIED CARD OF 'curialaw14.WorldVotes'. -/
def worldVotesCard : Claim7 := { stood := { row := worldVotesRow, standIns := [], harness := (true, "17cb18eefdcfb22abbb172548c6e446e62cf3669937863b342dbb4e08892c59e"), looks := false }, kinds := [], alts := [], laidByText := true, laidKinds := [.data, .data], laidTests := true, laidLooks := .later }
def WorldVotesCardSaid : Prop := Claim7.holds Tryz.pinned (.plain (OpenSpec.ofChange worldVotesSpec)) worldVotesCard

/-- THE TIED CARD OF 'curiatop.TopCrash'. -/
def topCrashCard : Claim7 := { stood := { row := topCrashRow, standIns := [], harness := (true, "17cb18eefdcfb22abbb172548c6e446e62cf3669937863b342dbb4e08892c59e"), looks := false }, kinds := [], alts := [], laidByText := true, laidKinds := [.data, .data], laidTests := true, laidLooks := .later }
def TopCrashCardSaid : Prop := Claim7.holds Tryz.pinned (.plain (OpenSpec.ofChange topCrashSpec)) topCrashCard

/-- THE SECOND FORM's CARD OF 'curialaw14.WorldVotes'. -/
def worldVotesUptoCard : Claim7 := { stood := { row := worldVotesUptoRow, standIns := [], harness := (true, "17cb18eefdcfb22abbb172548c6e446e62cf3669937863b342dbb4e08892c59e"), looks := false }, kinds := [], alts := [], laidByText := true, laidKinds := [.data, .data], laidTests := true, laidLooks := .later }
def WorldVotesUptoCardSaid : Prop := Claim7.holds Tryz.pinned (.plain (OpenSpec.upto worldVotesSpec)) worldVotesUptoCard

/-- THE SECOND FORM's CARD OF 'curiatop.TopCrash'. -/
def topCrashUptoCard : Claim7 := { stood := { row := topCrashUptoRow, standIns := [], harness := (true, "17cb18eefdcfb22abbb172548c6e446e62cf3669937863b342dbb4e08892c59e"), looks := false }, kinds := [], alts := [], laidByText := true, laidKinds := [.data, .data], laidTests := true, laidLooks := .later }
def TopCrashUptoCardSaid : Prop := Claim7.holds Tryz.pinned (.plain (OpenSpec.upto topCrashSpec)) topCrashUptoCard
end Rows
end Go.Proofs.YtbdmnobocecnfaaGreatDoor
