/-
  DERIVED. GIVEN WITH THE SEED: THE CARDS: each row of YtllbbbfkdgjffaaDoorRows.lean that lists a variable, with what it lists TIED to the program's text (the seventh form; the later family's looks); each row that meets fmt, with fmt's text TOLD by the authors' own Lean function (tested against real Go, not proved from fmt's source: count such statements apart). THE CARD IS WHAT COUNTS. Prove the row's statement (the work); the ties are given (YtllbbbfkdgjffaaDoorTie.lean); close each card by the builder's one call (the guide's Derived/Test/ToyasCard.lean, 'card_holds'). Laid BY PROGRAM, IN A SANDBOX (cutbox-door.mjs). By AI agents, Wed Nov 11 2026. No macro, syntax, notation, axiom, sorry.
-/
import Derived.Test.YtllbbbfkdgjffaaDoorRows
import GoSem.ClaimSeven
namespace Go.Proofs.YtllbbbfkdgjffaaDoor
namespace Rows

/-- THE TIED CARD OF 'tollbridgelaw07.MessageWhole'. -/
def messageWholeCard : Claim7 := { stood := { row := messageWholeRow, standIns := [], harness := (true, "75a4b175645a030b9549810f236eb71323a70c86a4b14cd9da0e842e79552f02"), looks := false }, kinds := [], alts := [], laidByText := true, laidKinds := [.data, .data], laidTests := true, laidLooks := .later }
def MessageWholeCardSaid : Prop := Claim7.holds Tryd.pinned (.plain (OpenSpec.ofChange messageWholeSpec)) messageWholeCard

/-- THE SECOND FORM's CARD OF 'tollbridgelaw07.MessageWhole'. -/
def messageWholeUptoCard : Claim7 := { stood := { row := messageWholeUptoRow, standIns := [], harness := (true, "75a4b175645a030b9549810f236eb71323a70c86a4b14cd9da0e842e79552f02"), looks := false }, kinds := [], alts := [], laidByText := true, laidKinds := [.data, .data], laidTests := true, laidLooks := .later }
def MessageWholeUptoCardSaid : Prop := Claim7.holds Tryd.pinned (.plain (OpenSpec.upto messageWholeSpec)) messageWholeUptoCard
end Rows
end Go.Proofs.YtllbbbfkdgjffaaDoor
