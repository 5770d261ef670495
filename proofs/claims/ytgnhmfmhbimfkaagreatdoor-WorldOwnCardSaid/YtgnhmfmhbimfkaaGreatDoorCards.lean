/-
  DERIVED. GIVEN WITH THE SEED: THE CARDS: each row of YtgnhmfmhbimfkaaGreatDoorRows.lean that lists a variable, with what it lists TIED to the program's text (the seventh form; the later family's looks); each row that meets fmt, with fmt's text TOLD by the authors' own Lean function (tested against real Go, not proved from fmt's source: count such statements apart). THE CARD IS WHAT COUNTS. Prove the row's statement (the work); the ties are given (YtgnhmfmhbimfkaaGreatDoorTie.lean); close each card by the builder's one call (the guide's Derived/Test/ToyasCard.lean, 'card_holds'). Laid BY PROGRAM, IN A SANDBOX (cutbox-door.mjs). By AI agents, Wed Nov 11 2026. No macro, syntax, notation, axiom, sorry.
-/
import Derived.Test.YtgnhmfmhbimfkaaGreatDoorRows
import GoSem.ClaimSeven
namespace Go.Proofs.YtgnhmfmhbimfkaaGreatDoor
namespace Rows

/-- THE TIED CARD OF 'curialaw14.WorldGrows'. -/
def worldGrowsCard : Claim7 := { stood := { row := worldGrowsRow, standIns := [], harness := (true, "08f066bb709159e78c29ebb023dc2926162b441654cf2730dfff8733db8daa68"), looks := false }, kinds := [], alts := [], laidByText := true, laidKinds := [.data, .data], laidTests := true, laidLooks := .later }
def WorldGrowsCardSaid : Prop := Claim7.holds Tryz.pinned (.plain (OpenSpec.ofChange worldGrowsSpec)) worldGrowsCard

/-- THE TIED CARD OF 'curialaw14.WorldStale'. -/
def worldStaleCard : Claim7 := { stood := { row := worldStaleRow, standIns := [], harness := (true, "08f066bb709159e78c29ebb023dc2926162b441654cf2730dfff8733db8daa68"), looks := false }, kinds := [], alts := [], laidByText := true, laidKinds := [.data, .data], laidTests := true, laidLooks := .later }
def WorldStaleCardSaid : Prop := Claim7.holds Tryz.pinned (.plain (OpenSpec.ofChange worldStaleSpec)) worldStaleCard

/-- THE TIED CARD OF 'curialaw14.WorldVotes'. -/
def worldVotesCard : Claim7 := { stood := { row := worldVotesRow, standIns := [], harness := (true, "08f066bb709159e78c29ebb023dc2926162b441654cf2730dfff8733db8daa68"), looks := false }, kinds := [], alts := [], laidByText := true, laidKinds := [.data, .data], laidTests := true, laidLooks := .later }
def WorldVotesCardSaid : Prop := Claim7.holds Tryz.pinned (.plain (OpenSpec.ofChange worldVotesSpec)) worldVotesCard

/-- THE TIED CARD OF 'curialaw14.WorldOrder'. -/
def worldOrderCard : Claim7 := { stood := { row := worldOrderRow, standIns := [], harness := (true, "08f066bb709159e78c29ebb023dc2926162b441654cf2730dfff8733db8daa68"), looks := false }, kinds := [], alts := [], laidByText := true, laidKinds := [.data, .data], laidTests := true, laidLooks := .later }
def WorldOrderCardSaid : Prop := Claim7.holds Tryz.pinned (.plain (OpenSpec.ofChange worldOrderSpec)) worldOrderCard

/-- THE TIED CARD OF 'curialaw14.WorldFull'. -/
def worldFullCard : Claim7 := { stood := { row := worldFullRow, standIns := [], harness := (true, "08f066bb709159e78c29ebb023dc2926162b441654cf2730dfff8733db8daa68"), looks := false }, kinds := [], alts := [], laidByText := true, laidKinds := [.data, .data], laidTests := true, laidLooks := .later }
def WorldFullCardSaid : Prop := Claim7.holds Tryz.pinned (.plain (OpenSpec.ofChange worldFullSpec)) worldFullCard

/-- THE TIED CARD OF 'curialaw14.WorldOwn'. -/
def worldOwnCard : Claim7 := { stood := { row := worldOwnRow, standIns := [], harness := (true, "08f066bb709159e78c29ebb023dc2926162b441654cf2730dfff8733db8daa68"), looks := false }, kinds := [], alts := [], laidByText := true, laidKinds := [.data, .data], laidTests := true, laidLooks := .later }
def WorldOwnCardSaid : Prop := Claim7.holds Tryz.pinned (.plain (OpenSpec.ofChange worldOwnSpec)) worldOwnCard

/-- THE SECOND FORM's CARD OF 'curialaw14.WorldGrows'. -/
def worldGrowsUptoCard : Claim7 := { stood := { row := worldGrowsUptoRow, standIns := [], harness := (true, "08f066bb709159e78c29ebb023dc2926162b441654cf2730dfff8733db8daa68"), looks := false }, kinds := [], alts := [], laidByText := true, laidKinds := [.data, .data], laidTests := true, laidLooks := .later }
def WorldGrowsUptoCardSaid : Prop := Claim7.holds Tryz.pinned (.plain (OpenSpec.upto worldGrowsSpec)) worldGrowsUptoCard

/-- THE SECOND FORM's CARD OF 'curialaw14.WorldStale'. -/
def worldStaleUptoCard : Claim7 := { stood := { row := worldStaleUptoRow, standIns := [], harness := (true, "08f066bb709159e78c29ebb023dc2926162b441654cf2730dfff8733db8daa68"), looks := false }, kinds := [], alts := [], laidByText := true, laidKinds := [.data, .data], laidTests := true, laidLooks := .later }
def WorldStaleUptoCardSaid : Prop := Claim7.holds Tryz.pinned (.plain (OpenSpec.upto worldStaleSpec)) worldStaleUptoCard

/-- THE SECOND FORM's CARD OF 'curialaw14.WorldVotes'. -/
def worldVotesUptoCard : Claim7 := { stood := { row := worldVotesUptoRow, standIns := [], harness := (true, "08f066bb709159e78c29ebb023dc2926162b441654cf2730dfff8733db8daa68"), looks := false }, kinds := [], alts := [], laidByText := true, laidKinds := [.data, .data], laidTests := true, laidLooks := .later }
def WorldVotesUptoCardSaid : Prop := Claim7.holds Tryz.pinned (.plain (OpenSpec.upto worldVotesSpec)) worldVotesUptoCard

/-- THE SECOND FORM's CARD OF 'curialaw14.WorldOrder'. -/
def worldOrderUptoCard : Claim7 := { stood := { row := worldOrderUptoRow, standIns := [], harness := (true, "08f066bb709159e78c29ebb023dc2926162b441654cf2730dfff8733db8daa68"), looks := false }, kinds := [], alts := [], laidByText := true, laidKinds := [.data, .data], laidTests := true, laidLooks := .later }
def WorldOrderUptoCardSaid : Prop := Claim7.holds Tryz.pinned (.plain (OpenSpec.upto worldOrderSpec)) worldOrderUptoCard

/-- THE SECOND FORM's CARD OF 'curialaw14.WorldFull'. -/
def worldFullUptoCard : Claim7 := { stood := { row := worldFullUptoRow, standIns := [], harness := (true, "08f066bb709159e78c29ebb023dc2926162b441654cf2730dfff8733db8daa68"), looks := false }, kinds := [], alts := [], laidByText := true, laidKinds := [.data, .data], laidTests := true, laidLooks := .later }
def WorldFullUptoCardSaid : Prop := Claim7.holds Tryz.pinned (.plain (OpenSpec.upto worldFullSpec)) worldFullUptoCard

/-- THE SECOND FORM's CARD OF 'curialaw14.WorldOwn'. -/
def worldOwnUptoCard : Claim7 := { stood := { row := worldOwnUptoRow, standIns := [], harness := (true, "08f066bb709159e78c29ebb023dc2926162b441654cf2730dfff8733db8daa68"), looks := false }, kinds := [], alts := [], laidByText := true, laidKinds := [.data, .data], laidTests := true, laidLooks := .later }
def WorldOwnUptoCardSaid : Prop := Claim7.holds Tryz.pinned (.plain (OpenSpec.upto worldOwnSpec)) worldOwnUptoCard
end Rows
end Go.Proofs.YtgnhmfmhbimfkaaGreatDoor
