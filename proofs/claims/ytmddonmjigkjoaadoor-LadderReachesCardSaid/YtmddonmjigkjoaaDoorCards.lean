/-
  DERIVED. GIVEN WITH THE SEED: THE CARDS: each row of YtmddonmjigkjoaaDoorRows.lean that lists a variable, with what it lists TIED to the program's text (the seventh form; the later family's looks); each row that meets fmt, with fmt's text TOLD by the authors' own Lean function (tested against real Go, not proved from fmt's source: count such statements apart). THE CARD IS WHAT COUNTS. Prove the row's statement (the work); the ties are given (YtmddonmjigkjoaaDoorTie.lean); close each card by the builder's one call (the guide's Derived/Test/ToyasCard.lean, 'card_holds'). Laid BY PROGRAM, IN A SANDBOX (cutbox-door.mjs). By AI agents, Wed Nov 11 2026. No macro, syntax, notation, axiom, sorry.
-/
import Derived.Test.YtmddonmjigkjoaaDoorRows
import GoSem.ClaimSeven
namespace Go.Proofs.YtmddonmjigkjoaaDoor
namespace Rows

/-- THE TIED CARD OF 'curialaw7.TreeReach'. -/
def treeReachCard : Claim7 := { stood := { row := treeReachRow, standIns := [], harness := (true, "a690461028582a9a9f5ebd9f4d0cb833243787150e23dfb34ef95bd35a5ccf7f"), looks := false }, kinds := [], alts := [], laidByText := true, laidKinds := [.data, .data], laidTests := true, laidLooks := .later }
def TreeReachCardSaid : Prop := Claim7.holds Tryd.pinned (.plain (OpenSpec.ofChange treeReachSpec)) treeReachCard

/-- THE TIED CARD OF 'curialaw7.TreeOnce'. -/
def treeOnceCard : Claim7 := { stood := { row := treeOnceRow, standIns := [], harness := (true, "a690461028582a9a9f5ebd9f4d0cb833243787150e23dfb34ef95bd35a5ccf7f"), looks := false }, kinds := [], alts := [], laidByText := true, laidKinds := [.data, .data], laidTests := true, laidLooks := .later }
def TreeOnceCardSaid : Prop := Claim7.holds Tryd.pinned (.plain (OpenSpec.ofChange treeOnceSpec)) treeOnceCard

/-- THE TIED CARD OF 'curialaw7.TreeRoot'. -/
def treeRootCard : Claim7 := { stood := { row := treeRootRow, standIns := [], harness := (true, "a690461028582a9a9f5ebd9f4d0cb833243787150e23dfb34ef95bd35a5ccf7f"), looks := false }, kinds := [], alts := [], laidByText := true, laidKinds := [.data, .data], laidTests := true, laidLooks := .later }
def TreeRootCardSaid : Prop := Claim7.holds Tryd.pinned (.plain (OpenSpec.ofChange treeRootSpec)) treeRootCard

/-- THE TIED CARD OF 'curialaw8.LadderTells'. -/
def ladderTellsCard : Claim7 := { stood := { row := ladderTellsRow, standIns := [], harness := (true, "a690461028582a9a9f5ebd9f4d0cb833243787150e23dfb34ef95bd35a5ccf7f"), looks := false }, kinds := [], alts := [], laidByText := true, laidKinds := [.data, .data], laidTests := true, laidLooks := .later }
def LadderTellsCardSaid : Prop := Claim7.holds Tryd.pinned (.plain (OpenSpec.ofChange ladderTellsSpec)) ladderTellsCard

/-- THE TIED CARD OF 'curialaw8.LadderReaches'. -/
def ladderReachesCard : Claim7 := { stood := { row := ladderReachesRow, standIns := [], harness := (true, "a690461028582a9a9f5ebd9f4d0cb833243787150e23dfb34ef95bd35a5ccf7f"), looks := false }, kinds := [], alts := [], laidByText := true, laidKinds := [.data, .data], laidTests := true, laidLooks := .later }
def LadderReachesCardSaid : Prop := Claim7.holds Tryd.pinned (.plain (OpenSpec.ofChange ladderReachesSpec)) ladderReachesCard

/-- THE TIED CARD OF 'curialaw8.LadderFull'. -/
def ladderFullCard : Claim7 := { stood := { row := ladderFullRow, standIns := [], harness := (true, "a690461028582a9a9f5ebd9f4d0cb833243787150e23dfb34ef95bd35a5ccf7f"), looks := false }, kinds := [], alts := [], laidByText := true, laidKinds := [.data, .data], laidTests := true, laidLooks := .later }
def LadderFullCardSaid : Prop := Claim7.holds Tryd.pinned (.plain (OpenSpec.ofChange ladderFullSpec)) ladderFullCard

/-- THE TIED CARD OF 'curialaw8.LadderBut'. -/
def ladderButCard : Claim7 := { stood := { row := ladderButRow, standIns := [], harness := (true, "a690461028582a9a9f5ebd9f4d0cb833243787150e23dfb34ef95bd35a5ccf7f"), looks := false }, kinds := [], alts := [], laidByText := true, laidKinds := [.data, .data], laidTests := true, laidLooks := .later }
def LadderButCardSaid : Prop := Claim7.holds Tryd.pinned (.plain (OpenSpec.ofChange ladderButSpec)) ladderButCard

/-- THE TIED CARD OF 'curialaw8.LadderClimbs'. -/
def ladderClimbsCard : Claim7 := { stood := { row := ladderClimbsRow, standIns := [], harness := (true, "a690461028582a9a9f5ebd9f4d0cb833243787150e23dfb34ef95bd35a5ccf7f"), looks := false }, kinds := [], alts := [], laidByText := true, laidKinds := [.data, .data], laidTests := true, laidLooks := .later }
def LadderClimbsCardSaid : Prop := Claim7.holds Tryd.pinned (.plain (OpenSpec.ofChange ladderClimbsSpec)) ladderClimbsCard

/-- THE SECOND FORM's CARD OF 'curialaw7.TreeReach'. -/
def treeReachUptoCard : Claim7 := { stood := { row := treeReachUptoRow, standIns := [], harness := (true, "a690461028582a9a9f5ebd9f4d0cb833243787150e23dfb34ef95bd35a5ccf7f"), looks := false }, kinds := [], alts := [], laidByText := true, laidKinds := [.data, .data], laidTests := true, laidLooks := .later }
def TreeReachUptoCardSaid : Prop := Claim7.holds Tryd.pinned (.plain (OpenSpec.upto treeReachSpec)) treeReachUptoCard

/-- THE SECOND FORM's CARD OF 'curialaw7.TreeOnce'. -/
def treeOnceUptoCard : Claim7 := { stood := { row := treeOnceUptoRow, standIns := [], harness := (true, "a690461028582a9a9f5ebd9f4d0cb833243787150e23dfb34ef95bd35a5ccf7f"), looks := false }, kinds := [], alts := [], laidByText := true, laidKinds := [.data, .data], laidTests := true, laidLooks := .later }
def TreeOnceUptoCardSaid : Prop := Claim7.holds Tryd.pinned (.plain (OpenSpec.upto treeOnceSpec)) treeOnceUptoCard

/-- THE SECOND FORM's CARD OF 'curialaw7.TreeRoot'. -/
def treeRootUptoCard : Claim7 := { stood := { row := treeRootUptoRow, standIns := [], harness := (true, "a690461028582a9a9f5ebd9f4d0cb833243787150e23dfb34ef95bd35a5ccf7f"), looks := false }, kinds := [], alts := [], laidByText := true, laidKinds := [.data, .data], laidTests := true, laidLooks := .later }
def TreeRootUptoCardSaid : Prop := Claim7.holds Tryd.pinned (.plain (OpenSpec.upto treeRootSpec)) treeRootUptoCard

/-- THE SECOND FORM's CARD OF 'curialaw8.LadderTells'. -/
def ladderTellsUptoCard : Claim7 := { stood := { row := ladderTellsUptoRow, standIns := [], harness := (true, "a690461028582a9a9f5ebd9f4d0cb833243787150e23dfb34ef95bd35a5ccf7f"), looks := false }, kinds := [], alts := [], laidByText := true, laidKinds := [.data, .data], laidTests := true, laidLooks := .later }
def LadderTellsUptoCardSaid : Prop := Claim7.holds Tryd.pinned (.plain (OpenSpec.upto ladderTellsSpec)) ladderTellsUptoCard

/-- THE SECOND FORM's CARD OF 'curialaw8.LadderReaches'. -/
def ladderReachesUptoCard : Claim7 := { stood := { row := ladderReachesUptoRow, standIns := [], harness := (true, "a690461028582a9a9f5ebd9f4d0cb833243787150e23dfb34ef95bd35a5ccf7f"), looks := false }, kinds := [], alts := [], laidByText := true, laidKinds := [.data, .data], laidTests := true, laidLooks := .later }
def LadderReachesUptoCardSaid : Prop := Claim7.holds Tryd.pinned (.plain (OpenSpec.upto ladderReachesSpec)) ladderReachesUptoCard

/-- THE SECOND FORM's CARD OF 'curialaw8.LadderFull'. -/
def ladderFullUptoCard : Claim7 := { stood := { row := ladderFullUptoRow, standIns := [], harness := (true, "a690461028582a9a9f5ebd9f4d0cb833243787150e23dfb34ef95bd35a5ccf7f"), looks := false }, kinds := [], alts := [], laidByText := true, laidKinds := [.data, .data], laidTests := true, laidLooks := .later }
def LadderFullUptoCardSaid : Prop := Claim7.holds Tryd.pinned (.plain (OpenSpec.upto ladderFullSpec)) ladderFullUptoCard

/-- THE SECOND FORM's CARD OF 'curialaw8.LadderBut'. -/
def ladderButUptoCard : Claim7 := { stood := { row := ladderButUptoRow, standIns := [], harness := (true, "a690461028582a9a9f5ebd9f4d0cb833243787150e23dfb34ef95bd35a5ccf7f"), looks := false }, kinds := [], alts := [], laidByText := true, laidKinds := [.data, .data], laidTests := true, laidLooks := .later }
def LadderButUptoCardSaid : Prop := Claim7.holds Tryd.pinned (.plain (OpenSpec.upto ladderButSpec)) ladderButUptoCard

/-- THE SECOND FORM's CARD OF 'curialaw8.LadderClimbs'. -/
def ladderClimbsUptoCard : Claim7 := { stood := { row := ladderClimbsUptoRow, standIns := [], harness := (true, "a690461028582a9a9f5ebd9f4d0cb833243787150e23dfb34ef95bd35a5ccf7f"), looks := false }, kinds := [], alts := [], laidByText := true, laidKinds := [.data, .data], laidTests := true, laidLooks := .later }
def LadderClimbsUptoCardSaid : Prop := Claim7.holds Tryd.pinned (.plain (OpenSpec.upto ladderClimbsSpec)) ladderClimbsUptoCard
end Rows
end Go.Proofs.YtmddonmjigkjoaaDoor
