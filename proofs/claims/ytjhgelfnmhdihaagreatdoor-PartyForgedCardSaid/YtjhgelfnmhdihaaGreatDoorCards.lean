/-
  DERIVED. GIVEN WITH THE SEED: THE CARDS: each row of YtjhgelfnmhdihaaGreatDoorRows.lean that lists a variable, with what it lists TIED to the program's text (the seventh form; the later family's looks); each row that meets fmt, with fmt's text TOLD by the authors' own Lean function (tested against real Go, not proved from fmt's source: count such statements apart). THE CARD IS WHAT COUNTS. Prove the row's statement (the work); the ties are given (YtjhgelfnmhdihaaGreatDoorTie.lean); close each card by the builder's one call (the guide's Derived/Test/ToyasCard.lean, 'card_holds'). Laid BY PROGRAM, IN A SANDBOX (cutbox-door.mjs). By AI agents, Wed Nov 11 2026. No macro, syntax, notation, axiom, sorry.
-/
import Derived.Test.YtjhgelfnmhdihaaGreatDoorRows
import GoSem.ClaimSeven
namespace Go.Proofs.YtjhgelfnmhdihaaGreatDoor
namespace Rows

/-- THE TIED CARD OF 'curialaw13.PartyPlays'. -/
def partyPlaysCard : Claim7 := { stood := { row := partyPlaysRow, standIns := [], harness := (true, "5f27879de53a16085f6352125262a264df685d61e658d45bc725407bc20226b8"), looks := false }, kinds := [], alts := [], laidByText := true, laidKinds := [.data, .data], laidTests := true, laidLooks := .later }
def PartyPlaysCardSaid : Prop := Claim7.holds Tryz.pinned (.plain (OpenSpec.ofChange partyPlaysSpec)) partyPlaysCard

/-- THE TIED CARD OF 'curialaw13.PartyOne'. -/
def partyOneCard : Claim7 := { stood := { row := partyOneRow, standIns := [], harness := (true, "5f27879de53a16085f6352125262a264df685d61e658d45bc725407bc20226b8"), looks := false }, kinds := [], alts := [], laidByText := true, laidKinds := [.data, .data], laidTests := true, laidLooks := .later }
def PartyOneCardSaid : Prop := Claim7.holds Tryz.pinned (.plain (OpenSpec.ofChange partyOneSpec)) partyOneCard

/-- THE TIED CARD OF 'curialaw13.PartyGone'. -/
def partyGoneCard : Claim7 := { stood := { row := partyGoneRow, standIns := [], harness := (true, "5f27879de53a16085f6352125262a264df685d61e658d45bc725407bc20226b8"), looks := false }, kinds := [], alts := [], laidByText := true, laidKinds := [.data, .data], laidTests := true, laidLooks := .later }
def PartyGoneCardSaid : Prop := Claim7.holds Tryz.pinned (.plain (OpenSpec.ofChange partyGoneSpec)) partyGoneCard

/-- THE TIED CARD OF 'curialaw13.PartyQuorum'. -/
def partyQuorumCard : Claim7 := { stood := { row := partyQuorumRow, standIns := [], harness := (true, "5f27879de53a16085f6352125262a264df685d61e658d45bc725407bc20226b8"), looks := false }, kinds := [], alts := [], laidByText := true, laidKinds := [.data, .data], laidTests := true, laidLooks := .later }
def PartyQuorumCardSaid : Prop := Claim7.holds Tryz.pinned (.plain (OpenSpec.ofChange partyQuorumSpec)) partyQuorumCard

/-- THE TIED CARD OF 'curialaw13.PartyForged'. -/
def partyForgedCard : Claim7 := { stood := { row := partyForgedRow, standIns := [], harness := (true, "5f27879de53a16085f6352125262a264df685d61e658d45bc725407bc20226b8"), looks := false }, kinds := [], alts := [], laidByText := true, laidKinds := [.data, .data], laidTests := true, laidLooks := .later }
def PartyForgedCardSaid : Prop := Claim7.holds Tryz.pinned (.plain (OpenSpec.ofChange partyForgedSpec)) partyForgedCard

/-- THE TIED CARD OF 'curialaw13.PartyLies'. -/
def partyLiesCard : Claim7 := { stood := { row := partyLiesRow, standIns := [], harness := (true, "5f27879de53a16085f6352125262a264df685d61e658d45bc725407bc20226b8"), looks := false }, kinds := [], alts := [], laidByText := true, laidKinds := [.data, .data], laidTests := true, laidLooks := .later }
def PartyLiesCardSaid : Prop := Claim7.holds Tryz.pinned (.plain (OpenSpec.ofChange partyLiesSpec)) partyLiesCard

/-- THE TIED CARD OF 'curialaw13.PartyOwn'. -/
def partyOwnCard : Claim7 := { stood := { row := partyOwnRow, standIns := [], harness := (true, "5f27879de53a16085f6352125262a264df685d61e658d45bc725407bc20226b8"), looks := false }, kinds := [], alts := [], laidByText := true, laidKinds := [.data, .data], laidTests := true, laidLooks := .later }
def PartyOwnCardSaid : Prop := Claim7.holds Tryz.pinned (.plain (OpenSpec.ofChange partyOwnSpec)) partyOwnCard

/-- THE TIED CARD OF 'curialaw13.PartyWelcome'. -/
def partyWelcomeCard : Claim7 := { stood := { row := partyWelcomeRow, standIns := [], harness := (true, "5f27879de53a16085f6352125262a264df685d61e658d45bc725407bc20226b8"), looks := false }, kinds := [], alts := [], laidByText := true, laidKinds := [.data, .data], laidTests := true, laidLooks := .later }
def PartyWelcomeCardSaid : Prop := Claim7.holds Tryz.pinned (.plain (OpenSpec.ofChange partyWelcomeSpec)) partyWelcomeCard

/-- THE TIED CARD OF 'curialaw13.PartyForks'. -/
def partyForksCard : Claim7 := { stood := { row := partyForksRow, standIns := [], harness := (true, "5f27879de53a16085f6352125262a264df685d61e658d45bc725407bc20226b8"), looks := false }, kinds := [], alts := [], laidByText := true, laidKinds := [.data, .data], laidTests := true, laidLooks := .later }
def PartyForksCardSaid : Prop := Claim7.holds Tryz.pinned (.plain (OpenSpec.ofChange partyForksSpec)) partyForksCard

/-- THE TIED CARD OF 'curialaw13.PartyExports'. -/
def partyExportsCard : Claim7 := { stood := { row := partyExportsRow, standIns := [], harness := (true, "5f27879de53a16085f6352125262a264df685d61e658d45bc725407bc20226b8"), looks := false }, kinds := [], alts := [], laidByText := true, laidKinds := [.data, .data], laidTests := true, laidLooks := .later }
def PartyExportsCardSaid : Prop := Claim7.holds Tryz.pinned (.plain (OpenSpec.ofChange partyExportsSpec)) partyExportsCard

/-- THE TIED CARD OF 'curialaw13.PartyNew'. -/
def partyNewCard : Claim7 := { stood := { row := partyNewRow, standIns := [], harness := (true, "5f27879de53a16085f6352125262a264df685d61e658d45bc725407bc20226b8"), looks := false }, kinds := [], alts := [], laidByText := true, laidKinds := [.data, .data], laidTests := true, laidLooks := .later }
def PartyNewCardSaid : Prop := Claim7.holds Tryz.pinned (.plain (OpenSpec.ofChange partyNewSpec)) partyNewCard

/-- THE TIED CARD OF 'curialaw13.PartyReplaced'. -/
def partyReplacedCard : Claim7 := { stood := { row := partyReplacedRow, standIns := [], harness := (true, "5f27879de53a16085f6352125262a264df685d61e658d45bc725407bc20226b8"), looks := false }, kinds := [], alts := [], laidByText := true, laidKinds := [.data, .data], laidTests := true, laidLooks := .later }
def PartyReplacedCardSaid : Prop := Claim7.holds Tryz.pinned (.plain (OpenSpec.ofChange partyReplacedSpec)) partyReplacedCard

/-- THE SECOND FORM's CARD OF 'curialaw13.PartyPlays'. -/
def partyPlaysUptoCard : Claim7 := { stood := { row := partyPlaysUptoRow, standIns := [], harness := (true, "5f27879de53a16085f6352125262a264df685d61e658d45bc725407bc20226b8"), looks := false }, kinds := [], alts := [], laidByText := true, laidKinds := [.data, .data], laidTests := true, laidLooks := .later }
def PartyPlaysUptoCardSaid : Prop := Claim7.holds Tryz.pinned (.plain (OpenSpec.upto partyPlaysSpec)) partyPlaysUptoCard

/-- THE SECOND FORM's CARD OF 'curialaw13.PartyOne'. -/
def partyOneUptoCard : Claim7 := { stood := { row := partyOneUptoRow, standIns := [], harness := (true, "5f27879de53a16085f6352125262a264df685d61e658d45bc725407bc20226b8"), looks := false }, kinds := [], alts := [], laidByText := true, laidKinds := [.data, .data], laidTests := true, laidLooks := .later }
def PartyOneUptoCardSaid : Prop := Claim7.holds Tryz.pinned (.plain (OpenSpec.upto partyOneSpec)) partyOneUptoCard

/-- THE SECOND FORM's CARD OF 'curialaw13.PartyGone'. -/
def partyGoneUptoCard : Claim7 := { stood := { row := partyGoneUptoRow, standIns := [], harness := (true, "5f27879de53a16085f6352125262a264df685d61e658d45bc725407bc20226b8"), looks := false }, kinds := [], alts := [], laidByText := true, laidKinds := [.data, .data], laidTests := true, laidLooks := .later }
def PartyGoneUptoCardSaid : Prop := Claim7.holds Tryz.pinned (.plain (OpenSpec.upto partyGoneSpec)) partyGoneUptoCard

/-- THE SECOND FORM's CARD OF 'curialaw13.PartyQuorum'. -/
def partyQuorumUptoCard : Claim7 := { stood := { row := partyQuorumUptoRow, standIns := [], harness := (true, "5f27879de53a16085f6352125262a264df685d61e658d45bc725407bc20226b8"), looks := false }, kinds := [], alts := [], laidByText := true, laidKinds := [.data, .data], laidTests := true, laidLooks := .later }
def PartyQuorumUptoCardSaid : Prop := Claim7.holds Tryz.pinned (.plain (OpenSpec.upto partyQuorumSpec)) partyQuorumUptoCard

/-- THE SECOND FORM's CARD OF 'curialaw13.PartyForged'. -/
def partyForgedUptoCard : Claim7 := { stood := { row := partyForgedUptoRow, standIns := [], harness := (true, "5f27879de53a16085f6352125262a264df685d61e658d45bc725407bc20226b8"), looks := false }, kinds := [], alts := [], laidByText := true, laidKinds := [.data, .data], laidTests := true, laidLooks := .later }
def PartyForgedUptoCardSaid : Prop := Claim7.holds Tryz.pinned (.plain (OpenSpec.upto partyForgedSpec)) partyForgedUptoCard

/-- THE SECOND FORM's CARD OF 'curialaw13.PartyLies'. -/
def partyLiesUptoCard : Claim7 := { stood := { row := partyLiesUptoRow, standIns := [], harness := (true, "5f27879de53a16085f6352125262a264df685d61e658d45bc725407bc20226b8"), looks := false }, kinds := [], alts := [], laidByText := true, laidKinds := [.data, .data], laidTests := true, laidLooks := .later }
def PartyLiesUptoCardSaid : Prop := Claim7.holds Tryz.pinned (.plain (OpenSpec.upto partyLiesSpec)) partyLiesUptoCard

/-- THE SECOND FORM's CARD OF 'curialaw13.PartyOwn'. -/
def partyOwnUptoCard : Claim7 := { stood := { row := partyOwnUptoRow, standIns := [], harness := (true, "5f27879de53a16085f6352125262a264df685d61e658d45bc725407bc20226b8"), looks := false }, kinds := [], alts := [], laidByText := true, laidKinds := [.data, .data], laidTests := true, laidLooks := .later }
def PartyOwnUptoCardSaid : Prop := Claim7.holds Tryz.pinned (.plain (OpenSpec.upto partyOwnSpec)) partyOwnUptoCard

/-- THE SECOND FORM's CARD OF 'curialaw13.PartyWelcome'. -/
def partyWelcomeUptoCard : Claim7 := { stood := { row := partyWelcomeUptoRow, standIns := [], harness := (true, "5f27879de53a16085f6352125262a264df685d61e658d45bc725407bc20226b8"), looks := false }, kinds := [], alts := [], laidByText := true, laidKinds := [.data, .data], laidTests := true, laidLooks := .later }
def PartyWelcomeUptoCardSaid : Prop := Claim7.holds Tryz.pinned (.plain (OpenSpec.upto partyWelcomeSpec)) partyWelcomeUptoCard

/-- THE SECOND FORM's CARD OF 'curialaw13.PartyForks'. -/
def partyForksUptoCard : Claim7 := { stood := { row := partyForksUptoRow, standIns := [], harness := (true, "5f27879de53a16085f6352125262a264df685d61e658d45bc725407bc20226b8"), looks := false }, kinds := [], alts := [], laidByText := true, laidKinds := [.data, .data], laidTests := true, laidLooks := .later }
def PartyForksUptoCardSaid : Prop := Claim7.holds Tryz.pinned (.plain (OpenSpec.upto partyForksSpec)) partyForksUptoCard

/-- THE SECOND FORM's CARD OF 'curialaw13.PartyExports'. -/
def partyExportsUptoCard : Claim7 := { stood := { row := partyExportsUptoRow, standIns := [], harness := (true, "5f27879de53a16085f6352125262a264df685d61e658d45bc725407bc20226b8"), looks := false }, kinds := [], alts := [], laidByText := true, laidKinds := [.data, .data], laidTests := true, laidLooks := .later }
def PartyExportsUptoCardSaid : Prop := Claim7.holds Tryz.pinned (.plain (OpenSpec.upto partyExportsSpec)) partyExportsUptoCard

/-- THE SECOND FORM's CARD OF 'curialaw13.PartyNew'. -/
def partyNewUptoCard : Claim7 := { stood := { row := partyNewUptoRow, standIns := [], harness := (true, "5f27879de53a16085f6352125262a264df685d61e658d45bc725407bc20226b8"), looks := false }, kinds := [], alts := [], laidByText := true, laidKinds := [.data, .data], laidTests := true, laidLooks := .later }
def PartyNewUptoCardSaid : Prop := Claim7.holds Tryz.pinned (.plain (OpenSpec.upto partyNewSpec)) partyNewUptoCard

/-- THE SECOND FORM's CARD OF 'curialaw13.PartyReplaced'. -/
def partyReplacedUptoCard : Claim7 := { stood := { row := partyReplacedUptoRow, standIns := [], harness := (true, "5f27879de53a16085f6352125262a264df685d61e658d45bc725407bc20226b8"), looks := false }, kinds := [], alts := [], laidByText := true, laidKinds := [.data, .data], laidTests := true, laidLooks := .later }
def PartyReplacedUptoCardSaid : Prop := Claim7.holds Tryz.pinned (.plain (OpenSpec.upto partyReplacedSpec)) partyReplacedUptoCard
end Rows
end Go.Proofs.YtjhgelfnmhdihaaGreatDoor
