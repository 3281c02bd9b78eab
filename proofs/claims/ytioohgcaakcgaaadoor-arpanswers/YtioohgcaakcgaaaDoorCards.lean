/-
  DERIVED. GIVEN WITH THE SEED: THE CARDS: each row of YtioohgcaakcgaaaDoorRows.lean that lists a variable, with what it lists TIED to the program's text (the seventh form; the later family's looks); each row that meets fmt, with fmt's text TOLD by the authors' own Lean function (tested against real Go, not proved from fmt's source: count such statements apart). THE CARD IS WHAT COUNTS. Prove the row's statement (the work); the ties are given (YtioohgcaakcgaaaDoorTie.lean); close each card by the builder's one call (the guide's Derived/Test/ToyasCard.lean, 'card_holds'). Laid BY PROGRAM, IN A SANDBOX (cutbox-door.mjs). By AI agents, Wed Nov 11 2026. No macro, syntax, notation, axiom, sorry.
-/
import Derived.Test.YtioohgcaakcgaaaDoorRows
import GoSem.ClaimSeven
namespace Go.Proofs.YtioohgcaakcgaaaDoor
namespace Rows

/-- THE TIED CARD OF 'tollbridgelaw04.ArpAsks'. -/
def arpAsksCard : Claim7 := { stood := { row := arpAsksRow, standIns := [], harness := (true, "5f52ab2f9caf7755ce9b2e7e0372498efd57042f7be733dcd1b5173ebc09a626"), looks := false }, kinds := [], alts := [], laidByText := true, laidKinds := [.data], laidTests := true, laidLooks := .later }
def ArpAsksCardSaid : Prop := Claim7.holds Tryd.pinned (.plain (OpenSpec.ofChange arpAsksSpec)) arpAsksCard

/-- THE TIED CARD OF 'tollbridgelaw04.ArpAnswers'. -/
def arpAnswersCard : Claim7 := { stood := { row := arpAnswersRow, standIns := [], harness := (true, "5f52ab2f9caf7755ce9b2e7e0372498efd57042f7be733dcd1b5173ebc09a626"), looks := false }, kinds := [], alts := [], laidByText := true, laidKinds := [.data], laidTests := true, laidLooks := .later }
def ArpAnswersCardSaid : Prop := Claim7.holds Tryd.pinned (.plain (OpenSpec.ofChange arpAnswersSpec)) arpAnswersCard

/-- THE TIED CARD OF 'tollbridgelaw04.ArpReads'. -/
def arpReadsCard : Claim7 := { stood := { row := arpReadsRow, standIns := [], harness := (true, "5f52ab2f9caf7755ce9b2e7e0372498efd57042f7be733dcd1b5173ebc09a626"), looks := false }, kinds := [], alts := [], laidByText := true, laidKinds := [.data], laidTests := true, laidLooks := .later }
def ArpReadsCardSaid : Prop := Claim7.holds Tryd.pinned (.plain (OpenSpec.ofChange arpReadsSpec)) arpReadsCard

/-- THE TIED CARD OF 'tollbridgelaw04.ArpBack'. -/
def arpBackCard : Claim7 := { stood := { row := arpBackRow, standIns := [], harness := (true, "5f52ab2f9caf7755ce9b2e7e0372498efd57042f7be733dcd1b5173ebc09a626"), looks := false }, kinds := [], alts := [], laidByText := true, laidKinds := [.data], laidTests := true, laidLooks := .later }
def ArpBackCardSaid : Prop := Claim7.holds Tryd.pinned (.plain (OpenSpec.ofChange arpBackSpec)) arpBackCard

/-- THE TIED CARD OF 'tollbridgelaw04.ArpTagged'. -/
def arpTaggedCard : Claim7 := { stood := { row := arpTaggedRow, standIns := [], harness := (true, "5f52ab2f9caf7755ce9b2e7e0372498efd57042f7be733dcd1b5173ebc09a626"), looks := false }, kinds := [], alts := [], laidByText := true, laidKinds := [.data], laidTests := true, laidLooks := .later }
def ArpTaggedCardSaid : Prop := Claim7.holds Tryd.pinned (.plain (OpenSpec.ofChange arpTaggedSpec)) arpTaggedCard

/-- THE SECOND FORM's CARD OF 'tollbridgelaw04.ArpAsks'. -/
def arpAsksUptoCard : Claim7 := { stood := { row := arpAsksUptoRow, standIns := [], harness := (true, "5f52ab2f9caf7755ce9b2e7e0372498efd57042f7be733dcd1b5173ebc09a626"), looks := false }, kinds := [], alts := [], laidByText := true, laidKinds := [.data], laidTests := true, laidLooks := .later }
def ArpAsksUptoCardSaid : Prop := Claim7.holds Tryd.pinned (.plain (OpenSpec.upto arpAsksSpec)) arpAsksUptoCard

/-- THE SECOND FORM's CARD OF 'tollbridgelaw04.ArpAnswers'. -/
def arpAnswersUptoCard : Claim7 := { stood := { row := arpAnswersUptoRow, standIns := [], harness := (true, "5f52ab2f9caf7755ce9b2e7e0372498efd57042f7be733dcd1b5173ebc09a626"), looks := false }, kinds := [], alts := [], laidByText := true, laidKinds := [.data], laidTests := true, laidLooks := .later }
def ArpAnswersUptoCardSaid : Prop := Claim7.holds Tryd.pinned (.plain (OpenSpec.upto arpAnswersSpec)) arpAnswersUptoCard

/-- THE SECOND FORM's CARD OF 'tollbridgelaw04.ArpReads'. -/
def arpReadsUptoCard : Claim7 := { stood := { row := arpReadsUptoRow, standIns := [], harness := (true, "5f52ab2f9caf7755ce9b2e7e0372498efd57042f7be733dcd1b5173ebc09a626"), looks := false }, kinds := [], alts := [], laidByText := true, laidKinds := [.data], laidTests := true, laidLooks := .later }
def ArpReadsUptoCardSaid : Prop := Claim7.holds Tryd.pinned (.plain (OpenSpec.upto arpReadsSpec)) arpReadsUptoCard

/-- THE SECOND FORM's CARD OF 'tollbridgelaw04.ArpBack'. -/
def arpBackUptoCard : Claim7 := { stood := { row := arpBackUptoRow, standIns := [], harness := (true, "5f52ab2f9caf7755ce9b2e7e0372498efd57042f7be733dcd1b5173ebc09a626"), looks := false }, kinds := [], alts := [], laidByText := true, laidKinds := [.data], laidTests := true, laidLooks := .later }
def ArpBackUptoCardSaid : Prop := Claim7.holds Tryd.pinned (.plain (OpenSpec.upto arpBackSpec)) arpBackUptoCard

/-- THE SECOND FORM's CARD OF 'tollbridgelaw04.ArpTagged'. -/
def arpTaggedUptoCard : Claim7 := { stood := { row := arpTaggedUptoRow, standIns := [], harness := (true, "5f52ab2f9caf7755ce9b2e7e0372498efd57042f7be733dcd1b5173ebc09a626"), looks := false }, kinds := [], alts := [], laidByText := true, laidKinds := [.data], laidTests := true, laidLooks := .later }
def ArpTaggedUptoCardSaid : Prop := Claim7.holds Tryd.pinned (.plain (OpenSpec.upto arpTaggedSpec)) arpTaggedUptoCard
end Rows
end Go.Proofs.YtioohgcaakcgaaaDoor
