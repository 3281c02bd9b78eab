/-
  DERIVED. GIVEN WITH THE SEED: THE CARDS: each row of YtjallmncajhamaaDoorRows.lean that lists a variable, with what it lists TIED to the program's text (the seventh form; the later family's looks); each row that meets fmt, with fmt's text TOLD by the authors' own Lean function (tested against real Go, not proved from fmt's source: count such statements apart). THE CARD IS WHAT COUNTS. Prove the row's statement (the work); the ties are given (YtjallmncajhamaaDoorTie.lean); close each card by the builder's one call (the guide's Derived/Test/ToyasCard.lean, 'card_holds'). Laid BY PROGRAM, IN A SANDBOX (cutbox-door.mjs). By AI agents, Wed Nov 11 2026. No macro, syntax, notation, axiom, sorry.
-/
import Derived.Test.YtjallmncajhamaaDoorRows
import GoSem.ClaimSeven
namespace Go.Proofs.YtjallmncajhamaaDoor
namespace Rows

/-- THE TIED CARD OF 'tollbridgelaw18.PolicyChecks'. -/
def policyChecksCard : Claim7 := { stood := { row := policyChecksRow, standIns := [], harness := (true, "e1e3fda79c6c7bb8113e4b101013b67e5c4d3894e0d8bb70c52c54bccf9b10ac"), looks := false }, kinds := [], alts := [], laidByText := true, laidKinds := [.data, .data, .data], laidTests := true, laidLooks := .later }
def PolicyChecksCardSaid : Prop := Claim7.holds Tryd.pinned (.plain (OpenSpec.ofChange policyChecksSpec)) policyChecksCard

/-- THE TIED CARD OF 'tollbridgelaw18.PolicyPlain'. -/
def policyPlainCard : Claim7 := { stood := { row := policyPlainRow, standIns := [], harness := (true, "e1e3fda79c6c7bb8113e4b101013b67e5c4d3894e0d8bb70c52c54bccf9b10ac"), looks := false }, kinds := [], alts := [], laidByText := true, laidKinds := [.data, .data, .data], laidTests := true, laidLooks := .later }
def PolicyPlainCardSaid : Prop := Claim7.holds Tryd.pinned (.plain (OpenSpec.ofChange policyPlainSpec)) policyPlainCard

/-- THE TIED CARD OF 'tollbridgelaw18.PolicyOwn'. -/
def policyOwnCard : Claim7 := { stood := { row := policyOwnRow, standIns := [], harness := (true, "e1e3fda79c6c7bb8113e4b101013b67e5c4d3894e0d8bb70c52c54bccf9b10ac"), looks := false }, kinds := [], alts := [], laidByText := true, laidKinds := [.data, .data, .data], laidTests := true, laidLooks := .later }
def PolicyOwnCardSaid : Prop := Claim7.holds Tryd.pinned (.plain (OpenSpec.ofChange policyOwnSpec)) policyOwnCard

/-- THE TIED CARD OF 'tollbridgelaw18.PolicyParts'. -/
def policyPartsCard : Claim7 := { stood := { row := policyPartsRow, standIns := [], harness := (true, "e1e3fda79c6c7bb8113e4b101013b67e5c4d3894e0d8bb70c52c54bccf9b10ac"), looks := false }, kinds := [], alts := [], laidByText := true, laidKinds := [.data, .data, .data], laidTests := true, laidLooks := .later }
def PolicyPartsCardSaid : Prop := Claim7.holds Tryd.pinned (.plain (OpenSpec.ofChange policyPartsSpec)) policyPartsCard

/-- THE TIED CARD OF 'tollbridgelaw19.MeaningTells'. -/
def meaningTellsCard : Claim7 := { stood := { row := meaningTellsRow, standIns := [], harness := (true, "e1e3fda79c6c7bb8113e4b101013b67e5c4d3894e0d8bb70c52c54bccf9b10ac"), looks := false }, kinds := [], alts := [], laidByText := true, laidKinds := [.data, .data], laidTests := true, laidLooks := .later }
def MeaningTellsCardSaid : Prop := Claim7.holds Tryd.pinned (.plain (OpenSpec.ofChange meaningTellsSpec)) meaningTellsCard

/-- THE TIED CARD OF 'tollbridgelaw19.MeaningAlgebra'. -/
def meaningAlgebraCard : Claim7 := { stood := { row := meaningAlgebraRow, standIns := [], harness := (true, "e1e3fda79c6c7bb8113e4b101013b67e5c4d3894e0d8bb70c52c54bccf9b10ac"), looks := false }, kinds := [], alts := [], laidByText := true, laidKinds := [.data, .data], laidTests := true, laidLooks := .later }
def MeaningAlgebraCardSaid : Prop := Claim7.holds Tryd.pinned (.plain (OpenSpec.ofChange meaningAlgebraSpec)) meaningAlgebraCard

/-- THE TIED CARD OF 'tollbridgelaw19.MeaningStar'. -/
def meaningStarCard : Claim7 := { stood := { row := meaningStarRow, standIns := [], harness := (true, "e1e3fda79c6c7bb8113e4b101013b67e5c4d3894e0d8bb70c52c54bccf9b10ac"), looks := false }, kinds := [], alts := [], laidByText := true, laidKinds := [.data, .data], laidTests := true, laidLooks := .later }
def MeaningStarCardSaid : Prop := Claim7.holds Tryd.pinned (.plain (OpenSpec.ofChange meaningStarSpec)) meaningStarCard

/-- THE TIED CARD OF 'tollbridgelaw19.MeaningFilters'. -/
def meaningFiltersCard : Claim7 := { stood := { row := meaningFiltersRow, standIns := [], harness := (true, "e1e3fda79c6c7bb8113e4b101013b67e5c4d3894e0d8bb70c52c54bccf9b10ac"), looks := false }, kinds := [], alts := [], laidByText := true, laidKinds := [.data, .data], laidTests := true, laidLooks := .later }
def MeaningFiltersCardSaid : Prop := Claim7.holds Tryd.pinned (.plain (OpenSpec.ofChange meaningFiltersSpec)) meaningFiltersCard

/-- THE TIED CARD OF 'tollbridgelaw19.MeaningSets'. -/
def meaningSetsCard : Claim7 := { stood := { row := meaningSetsRow, standIns := [], harness := (true, "e1e3fda79c6c7bb8113e4b101013b67e5c4d3894e0d8bb70c52c54bccf9b10ac"), looks := false }, kinds := [], alts := [], laidByText := true, laidKinds := [.data, .data], laidTests := true, laidLooks := .later }
def MeaningSetsCardSaid : Prop := Claim7.holds Tryd.pinned (.plain (OpenSpec.ofChange meaningSetsSpec)) meaningSetsCard

/-- THE SECOND FORM's CARD OF 'tollbridgelaw18.PolicyChecks'. -/
def policyChecksUptoCard : Claim7 := { stood := { row := policyChecksUptoRow, standIns := [], harness := (true, "e1e3fda79c6c7bb8113e4b101013b67e5c4d3894e0d8bb70c52c54bccf9b10ac"), looks := false }, kinds := [], alts := [], laidByText := true, laidKinds := [.data, .data, .data], laidTests := true, laidLooks := .later }
def PolicyChecksUptoCardSaid : Prop := Claim7.holds Tryd.pinned (.plain (OpenSpec.upto policyChecksSpec)) policyChecksUptoCard

/-- THE SECOND FORM's CARD OF 'tollbridgelaw18.PolicyPlain'. -/
def policyPlainUptoCard : Claim7 := { stood := { row := policyPlainUptoRow, standIns := [], harness := (true, "e1e3fda79c6c7bb8113e4b101013b67e5c4d3894e0d8bb70c52c54bccf9b10ac"), looks := false }, kinds := [], alts := [], laidByText := true, laidKinds := [.data, .data, .data], laidTests := true, laidLooks := .later }
def PolicyPlainUptoCardSaid : Prop := Claim7.holds Tryd.pinned (.plain (OpenSpec.upto policyPlainSpec)) policyPlainUptoCard

/-- THE SECOND FORM's CARD OF 'tollbridgelaw18.PolicyOwn'. -/
def policyOwnUptoCard : Claim7 := { stood := { row := policyOwnUptoRow, standIns := [], harness := (true, "e1e3fda79c6c7bb8113e4b101013b67e5c4d3894e0d8bb70c52c54bccf9b10ac"), looks := false }, kinds := [], alts := [], laidByText := true, laidKinds := [.data, .data, .data], laidTests := true, laidLooks := .later }
def PolicyOwnUptoCardSaid : Prop := Claim7.holds Tryd.pinned (.plain (OpenSpec.upto policyOwnSpec)) policyOwnUptoCard

/-- THE SECOND FORM's CARD OF 'tollbridgelaw18.PolicyParts'. -/
def policyPartsUptoCard : Claim7 := { stood := { row := policyPartsUptoRow, standIns := [], harness := (true, "e1e3fda79c6c7bb8113e4b101013b67e5c4d3894e0d8bb70c52c54bccf9b10ac"), looks := false }, kinds := [], alts := [], laidByText := true, laidKinds := [.data, .data, .data], laidTests := true, laidLooks := .later }
def PolicyPartsUptoCardSaid : Prop := Claim7.holds Tryd.pinned (.plain (OpenSpec.upto policyPartsSpec)) policyPartsUptoCard

/-- THE SECOND FORM's CARD OF 'tollbridgelaw19.MeaningTells'. -/
def meaningTellsUptoCard : Claim7 := { stood := { row := meaningTellsUptoRow, standIns := [], harness := (true, "e1e3fda79c6c7bb8113e4b101013b67e5c4d3894e0d8bb70c52c54bccf9b10ac"), looks := false }, kinds := [], alts := [], laidByText := true, laidKinds := [.data, .data], laidTests := true, laidLooks := .later }
def MeaningTellsUptoCardSaid : Prop := Claim7.holds Tryd.pinned (.plain (OpenSpec.upto meaningTellsSpec)) meaningTellsUptoCard

/-- THE SECOND FORM's CARD OF 'tollbridgelaw19.MeaningAlgebra'. -/
def meaningAlgebraUptoCard : Claim7 := { stood := { row := meaningAlgebraUptoRow, standIns := [], harness := (true, "e1e3fda79c6c7bb8113e4b101013b67e5c4d3894e0d8bb70c52c54bccf9b10ac"), looks := false }, kinds := [], alts := [], laidByText := true, laidKinds := [.data, .data], laidTests := true, laidLooks := .later }
def MeaningAlgebraUptoCardSaid : Prop := Claim7.holds Tryd.pinned (.plain (OpenSpec.upto meaningAlgebraSpec)) meaningAlgebraUptoCard

/-- THE SECOND FORM's CARD OF 'tollbridgelaw19.MeaningStar'. -/
def meaningStarUptoCard : Claim7 := { stood := { row := meaningStarUptoRow, standIns := [], harness := (true, "e1e3fda79c6c7bb8113e4b101013b67e5c4d3894e0d8bb70c52c54bccf9b10ac"), looks := false }, kinds := [], alts := [], laidByText := true, laidKinds := [.data, .data], laidTests := true, laidLooks := .later }
def MeaningStarUptoCardSaid : Prop := Claim7.holds Tryd.pinned (.plain (OpenSpec.upto meaningStarSpec)) meaningStarUptoCard

/-- THE SECOND FORM's CARD OF 'tollbridgelaw19.MeaningFilters'. -/
def meaningFiltersUptoCard : Claim7 := { stood := { row := meaningFiltersUptoRow, standIns := [], harness := (true, "e1e3fda79c6c7bb8113e4b101013b67e5c4d3894e0d8bb70c52c54bccf9b10ac"), looks := false }, kinds := [], alts := [], laidByText := true, laidKinds := [.data, .data], laidTests := true, laidLooks := .later }
def MeaningFiltersUptoCardSaid : Prop := Claim7.holds Tryd.pinned (.plain (OpenSpec.upto meaningFiltersSpec)) meaningFiltersUptoCard

/-- THE SECOND FORM's CARD OF 'tollbridgelaw19.MeaningSets'. -/
def meaningSetsUptoCard : Claim7 := { stood := { row := meaningSetsUptoRow, standIns := [], harness := (true, "e1e3fda79c6c7bb8113e4b101013b67e5c4d3894e0d8bb70c52c54bccf9b10ac"), looks := false }, kinds := [], alts := [], laidByText := true, laidKinds := [.data, .data], laidTests := true, laidLooks := .later }
def MeaningSetsUptoCardSaid : Prop := Claim7.holds Tryd.pinned (.plain (OpenSpec.upto meaningSetsSpec)) meaningSetsUptoCard
end Rows
end Go.Proofs.YtjallmncajhamaaDoor
