/-
  DERIVED. GIVEN WITH THE SEED: THE CARDS: each row of YtabbdnmbpepdbaaDoorRows.lean that lists a variable, with what it lists TIED to the program's text (the seventh form; the later family's looks); each row that meets fmt, with fmt's text TOLD by the authors' own Lean function (tested against real Go, not proved from fmt's source: count such statements apart). THE CARD IS WHAT COUNTS. Prove the row's statement (the work); the ties are given (YtabbdnmbpepdbaaDoorTie.lean); close each card by the builder's one call (the guide's Derived/Test/ToyasCard.lean, 'card_holds'). Laid BY PROGRAM, IN A SANDBOX (cutbox-door.mjs). By AI agents, Wed Nov 11 2026. No macro, syntax, notation, axiom, sorry.
-/
import Derived.Test.YtabbdnmbpepdbaaDoorRows
import GoSem.ClaimSeven
namespace Go.Proofs.YtabbdnmbpepdbaaDoor
namespace Rows

/-- THE TIED CARD OF 'tollbridgelaw18.PolicyChecks'. -/
def policyChecksCard : Claim7 := { stood := { row := policyChecksRow, standIns := [], harness := (true, "bc2da6d6f128923d27de308f4f58e04e4ead8de0ad25cc099d2d4ab21c6b7f12"), looks := false }, kinds := [], alts := [], laidByText := true, laidKinds := [.data, .data, .data], laidTests := true, laidLooks := .later }
def PolicyChecksCardSaid : Prop := Claim7.holds Tryd.pinned (.plain (OpenSpec.ofChange policyChecksSpec)) policyChecksCard

/-- THE TIED CARD OF 'tollbridgelaw18.PolicyPlain'. -/
def policyPlainCard : Claim7 := { stood := { row := policyPlainRow, standIns := [], harness := (true, "bc2da6d6f128923d27de308f4f58e04e4ead8de0ad25cc099d2d4ab21c6b7f12"), looks := false }, kinds := [], alts := [], laidByText := true, laidKinds := [.data, .data, .data], laidTests := true, laidLooks := .later }
def PolicyPlainCardSaid : Prop := Claim7.holds Tryd.pinned (.plain (OpenSpec.ofChange policyPlainSpec)) policyPlainCard

/-- THE TIED CARD OF 'tollbridgelaw18.PolicyOwn'. -/
def policyOwnCard : Claim7 := { stood := { row := policyOwnRow, standIns := [], harness := (true, "bc2da6d6f128923d27de308f4f58e04e4ead8de0ad25cc099d2d4ab21c6b7f12"), looks := false }, kinds := [], alts := [], laidByText := true, laidKinds := [.data, .data, .data], laidTests := true, laidLooks := .later }
def PolicyOwnCardSaid : Prop := Claim7.holds Tryd.pinned (.plain (OpenSpec.ofChange policyOwnSpec)) policyOwnCard

/-- THE TIED CARD OF 'tollbridgelaw18.PolicyTwice'. -/
def policyTwiceCard : Claim7 := { stood := { row := policyTwiceRow, standIns := [], harness := (true, "bc2da6d6f128923d27de308f4f58e04e4ead8de0ad25cc099d2d4ab21c6b7f12"), looks := false }, kinds := [], alts := [], laidByText := true, laidKinds := [.data, .data, .data], laidTests := true, laidLooks := .later }
def PolicyTwiceCardSaid : Prop := Claim7.holds Tryd.pinned (.plain (OpenSpec.ofChange policyTwiceSpec)) policyTwiceCard

/-- THE TIED CARD OF 'tollbridgelaw18.PolicyParts'. -/
def policyPartsCard : Claim7 := { stood := { row := policyPartsRow, standIns := [], harness := (true, "bc2da6d6f128923d27de308f4f58e04e4ead8de0ad25cc099d2d4ab21c6b7f12"), looks := false }, kinds := [], alts := [], laidByText := true, laidKinds := [.data, .data, .data], laidTests := true, laidLooks := .later }
def PolicyPartsCardSaid : Prop := Claim7.holds Tryd.pinned (.plain (OpenSpec.ofChange policyPartsSpec)) policyPartsCard

/-- THE TIED CARD OF 'tollbridgelaw18.PolicyForbids'. -/
def policyForbidsCard : Claim7 := { stood := { row := policyForbidsRow, standIns := [], harness := (true, "bc2da6d6f128923d27de308f4f58e04e4ead8de0ad25cc099d2d4ab21c6b7f12"), looks := false }, kinds := [], alts := [], laidByText := true, laidKinds := [.data, .data, .data], laidTests := true, laidLooks := .later }
def PolicyForbidsCardSaid : Prop := Claim7.holds Tryd.pinned (.plain (OpenSpec.ofChange policyForbidsSpec)) policyForbidsCard

/-- THE SECOND FORM's CARD OF 'tollbridgelaw18.PolicyChecks'. -/
def policyChecksUptoCard : Claim7 := { stood := { row := policyChecksUptoRow, standIns := [], harness := (true, "bc2da6d6f128923d27de308f4f58e04e4ead8de0ad25cc099d2d4ab21c6b7f12"), looks := false }, kinds := [], alts := [], laidByText := true, laidKinds := [.data, .data, .data], laidTests := true, laidLooks := .later }
def PolicyChecksUptoCardSaid : Prop := Claim7.holds Tryd.pinned (.plain (OpenSpec.upto policyChecksSpec)) policyChecksUptoCard

/-- THE SECOND FORM's CARD OF 'tollbridgelaw18.PolicyPlain'. -/
def policyPlainUptoCard : Claim7 := { stood := { row := policyPlainUptoRow, standIns := [], harness := (true, "bc2da6d6f128923d27de308f4f58e04e4ead8de0ad25cc099d2d4ab21c6b7f12"), looks := false }, kinds := [], alts := [], laidByText := true, laidKinds := [.data, .data, .data], laidTests := true, laidLooks := .later }
def PolicyPlainUptoCardSaid : Prop := Claim7.holds Tryd.pinned (.plain (OpenSpec.upto policyPlainSpec)) policyPlainUptoCard

/-- THE SECOND FORM's CARD OF 'tollbridgelaw18.PolicyOwn'. -/
def policyOwnUptoCard : Claim7 := { stood := { row := policyOwnUptoRow, standIns := [], harness := (true, "bc2da6d6f128923d27de308f4f58e04e4ead8de0ad25cc099d2d4ab21c6b7f12"), looks := false }, kinds := [], alts := [], laidByText := true, laidKinds := [.data, .data, .data], laidTests := true, laidLooks := .later }
def PolicyOwnUptoCardSaid : Prop := Claim7.holds Tryd.pinned (.plain (OpenSpec.upto policyOwnSpec)) policyOwnUptoCard

/-- THE SECOND FORM's CARD OF 'tollbridgelaw18.PolicyTwice'. -/
def policyTwiceUptoCard : Claim7 := { stood := { row := policyTwiceUptoRow, standIns := [], harness := (true, "bc2da6d6f128923d27de308f4f58e04e4ead8de0ad25cc099d2d4ab21c6b7f12"), looks := false }, kinds := [], alts := [], laidByText := true, laidKinds := [.data, .data, .data], laidTests := true, laidLooks := .later }
def PolicyTwiceUptoCardSaid : Prop := Claim7.holds Tryd.pinned (.plain (OpenSpec.upto policyTwiceSpec)) policyTwiceUptoCard

/-- THE SECOND FORM's CARD OF 'tollbridgelaw18.PolicyParts'. -/
def policyPartsUptoCard : Claim7 := { stood := { row := policyPartsUptoRow, standIns := [], harness := (true, "bc2da6d6f128923d27de308f4f58e04e4ead8de0ad25cc099d2d4ab21c6b7f12"), looks := false }, kinds := [], alts := [], laidByText := true, laidKinds := [.data, .data, .data], laidTests := true, laidLooks := .later }
def PolicyPartsUptoCardSaid : Prop := Claim7.holds Tryd.pinned (.plain (OpenSpec.upto policyPartsSpec)) policyPartsUptoCard

/-- THE SECOND FORM's CARD OF 'tollbridgelaw18.PolicyForbids'. -/
def policyForbidsUptoCard : Claim7 := { stood := { row := policyForbidsUptoRow, standIns := [], harness := (true, "bc2da6d6f128923d27de308f4f58e04e4ead8de0ad25cc099d2d4ab21c6b7f12"), looks := false }, kinds := [], alts := [], laidByText := true, laidKinds := [.data, .data, .data], laidTests := true, laidLooks := .later }
def PolicyForbidsUptoCardSaid : Prop := Claim7.holds Tryd.pinned (.plain (OpenSpec.upto policyForbidsSpec)) policyForbidsUptoCard
end Rows
end Go.Proofs.YtabbdnmbpepdbaaDoor
