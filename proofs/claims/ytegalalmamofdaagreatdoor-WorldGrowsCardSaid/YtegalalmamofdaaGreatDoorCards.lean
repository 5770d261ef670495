/-
  DERIVED. GIVEN WITH THE SEED: THE CARDS: each row of YtegalalmamofdaaGreatDoorRows.lean that lists a variable, with what it lists TIED to the program's text (the seventh form; the later family's looks); each row that meets fmt, with fmt's text TOLD by the authors' own Lean function (tested against real Go, not proved from fmt's source: count such statements apart). THE CARD IS WHAT COUNTS. Prove the row's statement (the work); the ties are given (YtegalalmamofdaaGreatDoorTie.lean); close each card by the builder's one call (the guide's Derived/Test/ToyasCard.lean, 'card_holds'). Laid BY PROGRAM, IN A SANDBOX (cutbox-door.mjs). By AI agents, Wed Nov 11 2026. No macro, syntax, notation, axiom, sorry.
-/
import Derived.Test.YtegalalmamofdaaGreatDoorRows
import GoSem.ClaimSeven
namespace Go.Proofs.YtegalalmamofdaaGreatDoor
namespace Rows

/-- THE TIED CARD OF 'curialaw14.WorldStale'. -/
def worldStaleCard : Claim7 := { stood := { row := worldStaleRow, standIns := [], harness := (true, "e6f0d38bbc543d84ce5e82913fae505d9845ab6947201a3216d41672cca32b26"), looks := false }, kinds := [], alts := [], laidByText := true, laidKinds := [.data, .data], laidTests := true, laidLooks := .later }
def WorldStaleCardSaid : Prop := Claim7.holds Tryz.pinned (.plain (OpenSpec.ofChange worldStaleSpec)) worldStaleCard

/-- THE TIED CARD OF 'curialaw14.WorldOrder'. -/
def worldOrderCard : Claim7 := { stood := { row := worldOrderRow, standIns := [], harness := (true, "e6f0d38bbc543d84ce5e82913fae505d9845ab6947201a3216d41672cca32b26"), looks := false }, kinds := [], alts := [], laidByText := true, laidKinds := [.data, .data], laidTests := true, laidLooks := .later }
def WorldOrderCardSaid : Prop := Claim7.holds Tryz.pinned (.plain (OpenSpec.ofChange worldOrderSpec)) worldOrderCard

/-- THE TIED CARD OF 'curialaw14.WorldGrows'. -/
def worldGrowsCard : Claim7 := { stood := { row := worldGrowsRow, standIns := [], harness := (true, "e6f0d38bbc543d84ce5e82913fae505d9845ab6947201a3216d41672cca32b26"), looks := false }, kinds := [], alts := [], laidByText := true, laidKinds := [.data, .data], laidTests := true, laidLooks := .later }
def WorldGrowsCardSaid : Prop := Claim7.holds Tryz.pinned (.plain (OpenSpec.ofChange worldGrowsSpec)) worldGrowsCard

/-- THE SECOND FORM's CARD OF 'curialaw14.WorldStale'. -/
def worldStaleUptoCard : Claim7 := { stood := { row := worldStaleUptoRow, standIns := [], harness := (true, "e6f0d38bbc543d84ce5e82913fae505d9845ab6947201a3216d41672cca32b26"), looks := false }, kinds := [], alts := [], laidByText := true, laidKinds := [.data, .data], laidTests := true, laidLooks := .later }
def WorldStaleUptoCardSaid : Prop := Claim7.holds Tryz.pinned (.plain (OpenSpec.upto worldStaleSpec)) worldStaleUptoCard

/-- THE SECOND FORM's CARD OF 'curialaw14.WorldOrder'. -/
def worldOrderUptoCard : Claim7 := { stood := { row := worldOrderUptoRow, standIns := [], harness := (true, "e6f0d38bbc543d84ce5e82913fae505d9845ab6947201a3216d41672cca32b26"), looks := false }, kinds := [], alts := [], laidByText := true, laidKinds := [.data, .data], laidTests := true, laidLooks := .later }
def WorldOrderUptoCardSaid : Prop := Claim7.holds Tryz.pinned (.plain (OpenSpec.upto worldOrderSpec)) worldOrderUptoCard

/-- THE SECOND FORM's CARD OF 'curialaw14.WorldGrows'. -/
def worldGrowsUptoCard : Claim7 := { stood := { row := worldGrowsUptoRow, standIns := [], harness := (true, "e6f0d38bbc543d84ce5e82913fae505d9845ab6947201a3216d41672cca32b26"), looks := false }, kinds := [], alts := [], laidByText := true, laidKinds := [.data, .data], laidTests := true, laidLooks := .later }
def WorldGrowsUptoCardSaid : Prop := Claim7.holds Tryz.pinned (.plain (OpenSpec.upto worldGrowsSpec)) worldGrowsUptoCard
end Rows
end Go.Proofs.YtegalalmamofdaaGreatDoor
