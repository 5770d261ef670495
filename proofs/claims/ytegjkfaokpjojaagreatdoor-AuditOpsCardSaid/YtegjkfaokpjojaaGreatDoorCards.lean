/-
  DERIVED. GIVEN WITH THE SEED: THE CARDS: each row of YtegjkfaokpjojaaGreatDoorRows.lean that lists a variable, with what it lists TIED to the program's text (the seventh form; the later family's looks); each row that meets fmt, with fmt's text TOLD by the authors' own Lean function (tested against real Go, not proved from fmt's source: count such statements apart). THE CARD IS WHAT COUNTS. Prove the row's statement (the work); the ties are given (YtegjkfaokpjojaaGreatDoorTie.lean); close each card by the builder's one call (the guide's Derived/Test/ToyasCard.lean, 'card_holds'). Laid BY PROGRAM, IN A SANDBOX (cutbox-door.mjs). By AI agents, Wed Nov 11 2026. No macro, syntax, notation, axiom, sorry.
-/
import Derived.Test.YtegjkfaokpjojaaGreatDoorRows
import GoSem.ClaimSeven
namespace Go.Proofs.YtegjkfaokpjojaaGreatDoor
namespace Rows

/-- THE TIED CARD OF 'curialaw15.AuditSteps'. -/
def auditStepsCard : Claim7 := { stood := { row := auditStepsRow, standIns := [], harness := (true, "3fd5e1125f61c1084b36a7bdb8274cad442b0b4e0ee632de246a747bc16f0687"), looks := false }, kinds := [], alts := [], laidByText := true, laidKinds := [.data, .data], laidTests := true, laidLooks := .later }
def AuditStepsCardSaid : Prop := Claim7.holds Tryz.pinned (.plain (OpenSpec.ofChange auditStepsSpec)) auditStepsCard

/-- THE TIED CARD OF 'curialaw15.AuditForks'. -/
def auditForksCard : Claim7 := { stood := { row := auditForksRow, standIns := [], harness := (true, "3fd5e1125f61c1084b36a7bdb8274cad442b0b4e0ee632de246a747bc16f0687"), looks := false }, kinds := [], alts := [], laidByText := true, laidKinds := [.data, .data], laidTests := true, laidLooks := .later }
def AuditForksCardSaid : Prop := Claim7.holds Tryz.pinned (.plain (OpenSpec.ofChange auditForksSpec)) auditForksCard

/-- THE TIED CARD OF 'curialaw15.AuditOps'. -/
def auditOpsCard : Claim7 := { stood := { row := auditOpsRow, standIns := [], harness := (true, "3fd5e1125f61c1084b36a7bdb8274cad442b0b4e0ee632de246a747bc16f0687"), looks := false }, kinds := [], alts := [], laidByText := true, laidKinds := [.data, .data], laidTests := true, laidLooks := .later }
def AuditOpsCardSaid : Prop := Claim7.holds Tryz.pinned (.plain (OpenSpec.ofChange auditOpsSpec)) auditOpsCard

/-- THE SECOND FORM's CARD OF 'curialaw15.AuditSteps'. -/
def auditStepsUptoCard : Claim7 := { stood := { row := auditStepsUptoRow, standIns := [], harness := (true, "3fd5e1125f61c1084b36a7bdb8274cad442b0b4e0ee632de246a747bc16f0687"), looks := false }, kinds := [], alts := [], laidByText := true, laidKinds := [.data, .data], laidTests := true, laidLooks := .later }
def AuditStepsUptoCardSaid : Prop := Claim7.holds Tryz.pinned (.plain (OpenSpec.upto auditStepsSpec)) auditStepsUptoCard

/-- THE SECOND FORM's CARD OF 'curialaw15.AuditForks'. -/
def auditForksUptoCard : Claim7 := { stood := { row := auditForksUptoRow, standIns := [], harness := (true, "3fd5e1125f61c1084b36a7bdb8274cad442b0b4e0ee632de246a747bc16f0687"), looks := false }, kinds := [], alts := [], laidByText := true, laidKinds := [.data, .data], laidTests := true, laidLooks := .later }
def AuditForksUptoCardSaid : Prop := Claim7.holds Tryz.pinned (.plain (OpenSpec.upto auditForksSpec)) auditForksUptoCard

/-- THE SECOND FORM's CARD OF 'curialaw15.AuditOps'. -/
def auditOpsUptoCard : Claim7 := { stood := { row := auditOpsUptoRow, standIns := [], harness := (true, "3fd5e1125f61c1084b36a7bdb8274cad442b0b4e0ee632de246a747bc16f0687"), looks := false }, kinds := [], alts := [], laidByText := true, laidKinds := [.data, .data], laidTests := true, laidLooks := .later }
def AuditOpsUptoCardSaid : Prop := Claim7.holds Tryz.pinned (.plain (OpenSpec.upto auditOpsSpec)) auditOpsUptoCard
end Rows
end Go.Proofs.YtegjkfaokpjojaaGreatDoor
