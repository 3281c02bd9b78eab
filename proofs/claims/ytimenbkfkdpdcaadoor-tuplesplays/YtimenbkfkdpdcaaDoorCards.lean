/-
  DERIVED. GIVEN WITH THE SEED: THE CARDS: each row of YtimenbkfkdpdcaaDoorRows.lean that lists a variable, with what it lists TIED to the program's text (the seventh form; the later family's looks); each row that meets fmt, with fmt's text TOLD by the authors' own Lean function (tested against real Go, not proved from fmt's source: count such statements apart). THE CARD IS WHAT COUNTS. Prove the row's statement (the work); the ties are given (YtimenbkfkdpdcaaDoorTie.lean); close each card by the builder's one call (the guide's Derived/Test/ToyasCard.lean, 'card_holds'). Laid BY PROGRAM, IN A SANDBOX (cutbox-door.mjs). By AI agents, Wed Nov 11 2026. No macro, syntax, notation, axiom, sorry.
-/
import Derived.Test.YtimenbkfkdpdcaaDoorRows
import GoSem.ClaimSeven
namespace Go.Proofs.YtimenbkfkdpdcaaDoor
namespace Rows

/-- THE TIED CARD OF 'tollbridgelaw09.TuplesPlays'. -/
def tuplesPlaysCard : Claim7 := { stood := { row := tuplesPlaysRow, standIns := [], harness := (true, "5fca97e644b1e04edf27e8ead61c15b0729ae2fb7e78e2f41742d22450957d1e"), looks := false }, kinds := [], alts := [], laidByText := true, laidKinds := [.data], laidTests := true, laidLooks := .later }
def TuplesPlaysCardSaid : Prop := Claim7.holds Tryd.pinned (.plain (OpenSpec.ofChange tuplesPlaysSpec)) tuplesPlaysCard

/-- THE TIED CARD OF 'tollbridgelaw09.TuplesNil'. -/
def tuplesNilCard : Claim7 := { stood := { row := tuplesNilRow, standIns := [], harness := (true, "5fca97e644b1e04edf27e8ead61c15b0729ae2fb7e78e2f41742d22450957d1e"), looks := false }, kinds := [], alts := [], laidByText := true, laidKinds := [.data], laidTests := true, laidLooks := .later }
def TuplesNilCardSaid : Prop := Claim7.holds Tryd.pinned (.plain (OpenSpec.ofChange tuplesNilSpec)) tuplesNilCard

/-- THE TIED CARD OF 'tollbridgelaw09.TuplesBest'. -/
def tuplesBestCard : Claim7 := { stood := { row := tuplesBestRow, standIns := [], harness := (true, "5fca97e644b1e04edf27e8ead61c15b0729ae2fb7e78e2f41742d22450957d1e"), looks := false }, kinds := [], alts := [], laidByText := true, laidKinds := [.data], laidTests := true, laidLooks := .later }
def TuplesBestCardSaid : Prop := Claim7.holds Tryd.pinned (.plain (OpenSpec.ofChange tuplesBestSpec)) tuplesBestCard

/-- THE TIED CARD OF 'tollbridgelaw09.TuplesFull'. -/
def tuplesFullCard : Claim7 := { stood := { row := tuplesFullRow, standIns := [], harness := (true, "5fca97e644b1e04edf27e8ead61c15b0729ae2fb7e78e2f41742d22450957d1e"), looks := false }, kinds := [], alts := [], laidByText := true, laidKinds := [.data], laidTests := true, laidLooks := .later }
def TuplesFullCardSaid : Prop := Claim7.holds Tryd.pinned (.plain (OpenSpec.ofChange tuplesFullSpec)) tuplesFullCard

/-- THE SECOND FORM's CARD OF 'tollbridgelaw09.TuplesPlays'. -/
def tuplesPlaysUptoCard : Claim7 := { stood := { row := tuplesPlaysUptoRow, standIns := [], harness := (true, "5fca97e644b1e04edf27e8ead61c15b0729ae2fb7e78e2f41742d22450957d1e"), looks := false }, kinds := [], alts := [], laidByText := true, laidKinds := [.data], laidTests := true, laidLooks := .later }
def TuplesPlaysUptoCardSaid : Prop := Claim7.holds Tryd.pinned (.plain (OpenSpec.upto tuplesPlaysSpec)) tuplesPlaysUptoCard

/-- THE SECOND FORM's CARD OF 'tollbridgelaw09.TuplesNil'. -/
def tuplesNilUptoCard : Claim7 := { stood := { row := tuplesNilUptoRow, standIns := [], harness := (true, "5fca97e644b1e04edf27e8ead61c15b0729ae2fb7e78e2f41742d22450957d1e"), looks := false }, kinds := [], alts := [], laidByText := true, laidKinds := [.data], laidTests := true, laidLooks := .later }
def TuplesNilUptoCardSaid : Prop := Claim7.holds Tryd.pinned (.plain (OpenSpec.upto tuplesNilSpec)) tuplesNilUptoCard

/-- THE SECOND FORM's CARD OF 'tollbridgelaw09.TuplesBest'. -/
def tuplesBestUptoCard : Claim7 := { stood := { row := tuplesBestUptoRow, standIns := [], harness := (true, "5fca97e644b1e04edf27e8ead61c15b0729ae2fb7e78e2f41742d22450957d1e"), looks := false }, kinds := [], alts := [], laidByText := true, laidKinds := [.data], laidTests := true, laidLooks := .later }
def TuplesBestUptoCardSaid : Prop := Claim7.holds Tryd.pinned (.plain (OpenSpec.upto tuplesBestSpec)) tuplesBestUptoCard

/-- THE SECOND FORM's CARD OF 'tollbridgelaw09.TuplesFull'. -/
def tuplesFullUptoCard : Claim7 := { stood := { row := tuplesFullUptoRow, standIns := [], harness := (true, "5fca97e644b1e04edf27e8ead61c15b0729ae2fb7e78e2f41742d22450957d1e"), looks := false }, kinds := [], alts := [], laidByText := true, laidKinds := [.data], laidTests := true, laidLooks := .later }
def TuplesFullUptoCardSaid : Prop := Claim7.holds Tryd.pinned (.plain (OpenSpec.upto tuplesFullSpec)) tuplesFullUptoCard
end Rows
end Go.Proofs.YtimenbkfkdpdcaaDoor
