/-
  DERIVED. GIVEN WITH THE SEED: THE CARDS: each row of YtejmobkfanejbaaDoorRows.lean that lists a variable, with what it lists TIED to the program's text (the seventh form; the later family's looks); each row that meets fmt, with fmt's text TOLD by the authors' own Lean function (tested against real Go, not proved from fmt's source: count such statements apart). THE CARD IS WHAT COUNTS. Prove the row's statement (the work); the ties are given (YtejmobkfanejbaaDoorTie.lean); close each card by the builder's one call (the guide's Derived/Test/ToyasCard.lean, 'card_holds'). Laid BY PROGRAM, IN A SANDBOX (cutbox-door.mjs). By AI agents, Wed Nov 11 2026. No macro, syntax, notation, axiom, sorry.
-/
import Derived.Test.YtejmobkfanejbaaDoorRows
import GoSem.ClaimSeven
namespace Go.Proofs.YtejmobkfanejbaaDoor
namespace Rows

/-- THE TIED CARD OF 'tollbridgelaw12.ActionsChecks'. -/
def actionsChecksCard : Claim7 := { stood := { row := actionsChecksRow, standIns := [], harness := (true, "060b700433cc06f6f01662461eb1481f11b47b565efebb0871b06db31ee4b341"), looks := false }, kinds := [], alts := [], laidByText := true, laidKinds := [.data], laidTests := true, laidLooks := .later }
def ActionsChecksCardSaid : Prop := Claim7.holds Tryd.pinned (.plain (OpenSpec.ofChange actionsChecksSpec)) actionsChecksCard

/-- THE TIED CARD OF 'tollbridgelaw12.ActionsRun'. -/
def actionsRunCard : Claim7 := { stood := { row := actionsRunRow, standIns := [], harness := (true, "060b700433cc06f6f01662461eb1481f11b47b565efebb0871b06db31ee4b341"), looks := false }, kinds := [], alts := [], laidByText := true, laidKinds := [.data], laidTests := true, laidLooks := .later }
def ActionsRunCardSaid : Prop := Claim7.holds Tryd.pinned (.plain (OpenSpec.ofChange actionsRunSpec)) actionsRunCard

/-- THE TIED CARD OF 'tollbridgelaw12.ActionsSame'. -/
def actionsSameCard : Claim7 := { stood := { row := actionsSameRow, standIns := [], harness := (true, "060b700433cc06f6f01662461eb1481f11b47b565efebb0871b06db31ee4b341"), looks := false }, kinds := [], alts := [], laidByText := true, laidKinds := [.data], laidTests := true, laidLooks := .later }
def ActionsSameCardSaid : Prop := Claim7.holds Tryd.pinned (.plain (OpenSpec.ofChange actionsSameSpec)) actionsSameCard

/-- THE TIED CARD OF 'tollbridgelaw12.ActionsEach'. -/
def actionsEachCard : Claim7 := { stood := { row := actionsEachRow, standIns := [], harness := (true, "060b700433cc06f6f01662461eb1481f11b47b565efebb0871b06db31ee4b341"), looks := false }, kinds := [], alts := [], laidByText := true, laidKinds := [.data], laidTests := true, laidLooks := .later }
def ActionsEachCardSaid : Prop := Claim7.holds Tryd.pinned (.plain (OpenSpec.ofChange actionsEachSpec)) actionsEachCard

/-- THE TIED CARD OF 'tollbridgelaw12.ActionsFields'. -/
def actionsFieldsCard : Claim7 := { stood := { row := actionsFieldsRow, standIns := [], harness := (true, "060b700433cc06f6f01662461eb1481f11b47b565efebb0871b06db31ee4b341"), looks := false }, kinds := [], alts := [], laidByText := true, laidKinds := [.data], laidTests := true, laidLooks := .later }
def ActionsFieldsCardSaid : Prop := Claim7.holds Tryd.pinned (.plain (OpenSpec.ofChange actionsFieldsSpec)) actionsFieldsCard

/-- THE TIED CARD OF 'tollbridgelaw12.ActionsPorts'. -/
def actionsPortsCard : Claim7 := { stood := { row := actionsPortsRow, standIns := [], harness := (true, "060b700433cc06f6f01662461eb1481f11b47b565efebb0871b06db31ee4b341"), looks := false }, kinds := [], alts := [], laidByText := true, laidKinds := [.data], laidTests := true, laidLooks := .later }
def ActionsPortsCardSaid : Prop := Claim7.holds Tryd.pinned (.plain (OpenSpec.ofChange actionsPortsSpec)) actionsPortsCard

/-- THE SECOND FORM's CARD OF 'tollbridgelaw12.ActionsChecks'. -/
def actionsChecksUptoCard : Claim7 := { stood := { row := actionsChecksUptoRow, standIns := [], harness := (true, "060b700433cc06f6f01662461eb1481f11b47b565efebb0871b06db31ee4b341"), looks := false }, kinds := [], alts := [], laidByText := true, laidKinds := [.data], laidTests := true, laidLooks := .later }
def ActionsChecksUptoCardSaid : Prop := Claim7.holds Tryd.pinned (.plain (OpenSpec.upto actionsChecksSpec)) actionsChecksUptoCard

/-- THE SECOND FORM's CARD OF 'tollbridgelaw12.ActionsRun'. -/
def actionsRunUptoCard : Claim7 := { stood := { row := actionsRunUptoRow, standIns := [], harness := (true, "060b700433cc06f6f01662461eb1481f11b47b565efebb0871b06db31ee4b341"), looks := false }, kinds := [], alts := [], laidByText := true, laidKinds := [.data], laidTests := true, laidLooks := .later }
def ActionsRunUptoCardSaid : Prop := Claim7.holds Tryd.pinned (.plain (OpenSpec.upto actionsRunSpec)) actionsRunUptoCard

/-- THE SECOND FORM's CARD OF 'tollbridgelaw12.ActionsSame'. -/
def actionsSameUptoCard : Claim7 := { stood := { row := actionsSameUptoRow, standIns := [], harness := (true, "060b700433cc06f6f01662461eb1481f11b47b565efebb0871b06db31ee4b341"), looks := false }, kinds := [], alts := [], laidByText := true, laidKinds := [.data], laidTests := true, laidLooks := .later }
def ActionsSameUptoCardSaid : Prop := Claim7.holds Tryd.pinned (.plain (OpenSpec.upto actionsSameSpec)) actionsSameUptoCard

/-- THE SECOND FORM's CARD OF 'tollbridgelaw12.ActionsEach'. -/
def actionsEachUptoCard : Claim7 := { stood := { row := actionsEachUptoRow, standIns := [], harness := (true, "060b700433cc06f6f01662461eb1481f11b47b565efebb0871b06db31ee4b341"), looks := false }, kinds := [], alts := [], laidByText := true, laidKinds := [.data], laidTests := true, laidLooks := .later }
def ActionsEachUptoCardSaid : Prop := Claim7.holds Tryd.pinned (.plain (OpenSpec.upto actionsEachSpec)) actionsEachUptoCard

/-- THE SECOND FORM's CARD OF 'tollbridgelaw12.ActionsFields'. -/
def actionsFieldsUptoCard : Claim7 := { stood := { row := actionsFieldsUptoRow, standIns := [], harness := (true, "060b700433cc06f6f01662461eb1481f11b47b565efebb0871b06db31ee4b341"), looks := false }, kinds := [], alts := [], laidByText := true, laidKinds := [.data], laidTests := true, laidLooks := .later }
def ActionsFieldsUptoCardSaid : Prop := Claim7.holds Tryd.pinned (.plain (OpenSpec.upto actionsFieldsSpec)) actionsFieldsUptoCard

/-- THE SECOND FORM's CARD OF 'tollbridgelaw12.ActionsPorts'. -/
def actionsPortsUptoCard : Claim7 := { stood := { row := actionsPortsUptoRow, standIns := [], harness := (true, "060b700433cc06f6f01662461eb1481f11b47b565efebb0871b06db31ee4b341"), looks := false }, kinds := [], alts := [], laidByText := true, laidKinds := [.data], laidTests := true, laidLooks := .later }
def ActionsPortsUptoCardSaid : Prop := Claim7.holds Tryd.pinned (.plain (OpenSpec.upto actionsPortsSpec)) actionsPortsUptoCard
end Rows
end Go.Proofs.YtejmobkfanejbaaDoor
