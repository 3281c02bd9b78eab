/-
  DERIVED. GIVEN WITH THE SEED: THE CARDS: each row of YtmonlbmjgjapoaaDoorRows.lean that lists a variable, with what it lists TIED to the program's text (the seventh form; the later family's looks); each row that meets fmt, with fmt's text TOLD by the authors' own Lean function (tested against real Go, not proved from fmt's source: count such statements apart). THE CARD IS WHAT COUNTS. Prove the row's statement (the work); the ties are given (YtmonlbmjgjapoaaDoorTie.lean); close each card by the builder's one call (the guide's Derived/Test/ToyasCard.lean, 'card_holds'). Laid BY PROGRAM, IN A SANDBOX (cutbox-door.mjs). By AI agents, Wed Nov 11 2026. No macro, syntax, notation, axiom, sorry.
-/
import Derived.Test.YtmonlbmjgjapoaaDoorRows
import GoSem.ClaimSeven
namespace Go.Proofs.YtmonlbmjgjapoaaDoor
namespace Rows

/-- THE TIED CARD OF 'tollbridgelaw02.MatchTells'. -/
def matchTellsCard : Claim7 := { stood := { row := matchTellsRow, standIns := [], harness := (true, "d9d167f10d6e6623bcaf4f65bbdf8b6852e58349126f1e615e08833e4dcc16cf"), looks := false }, kinds := [], alts := [], laidByText := true, laidKinds := [.data], laidTests := true, laidLooks := .later }
def MatchTellsCardSaid : Prop := Claim7.holds Tryd.pinned (.plain (OpenSpec.ofChange matchTellsSpec)) matchTellsCard

/-- THE TIED CARD OF 'tollbridgelaw02.MatchLies'. -/
def matchLiesCard : Claim7 := { stood := { row := matchLiesRow, standIns := [], harness := (true, "d9d167f10d6e6623bcaf4f65bbdf8b6852e58349126f1e615e08833e4dcc16cf"), looks := false }, kinds := [], alts := [], laidByText := true, laidKinds := [.data], laidTests := true, laidLooks := .later }
def MatchLiesCardSaid : Prop := Claim7.holds Tryd.pinned (.plain (OpenSpec.ofChange matchLiesSpec)) matchLiesCard

/-- THE TIED CARD OF 'tollbridgelaw02.MatchBoth'. -/
def matchBothCard : Claim7 := { stood := { row := matchBothRow, standIns := [], harness := (true, "d9d167f10d6e6623bcaf4f65bbdf8b6852e58349126f1e615e08833e4dcc16cf"), looks := false }, kinds := [], alts := [], laidByText := true, laidKinds := [.data], laidTests := true, laidLooks := .later }
def MatchBothCardSaid : Prop := Claim7.holds Tryd.pinned (.plain (OpenSpec.ofChange matchBothSpec)) matchBothCard

/-- THE TIED CARD OF 'tollbridgelaw02.MatchOrder'. -/
def matchOrderCard : Claim7 := { stood := { row := matchOrderRow, standIns := [], harness := (true, "d9d167f10d6e6623bcaf4f65bbdf8b6852e58349126f1e615e08833e4dcc16cf"), looks := false }, kinds := [], alts := [], laidByText := true, laidKinds := [.data], laidTests := true, laidLooks := .later }
def MatchOrderCardSaid : Prop := Claim7.holds Tryd.pinned (.plain (OpenSpec.ofChange matchOrderSpec)) matchOrderCard

/-- THE TIED CARD OF 'tollbridgelaw02.MatchWithin'. -/
def matchWithinCard : Claim7 := { stood := { row := matchWithinRow, standIns := [], harness := (true, "d9d167f10d6e6623bcaf4f65bbdf8b6852e58349126f1e615e08833e4dcc16cf"), looks := false }, kinds := [], alts := [], laidByText := true, laidKinds := [.data], laidTests := true, laidLooks := .later }
def MatchWithinCardSaid : Prop := Claim7.holds Tryd.pinned (.plain (OpenSpec.ofChange matchWithinSpec)) matchWithinCard

/-- THE TIED CARD OF 'tollbridgelaw02.MatchWide'. -/
def matchWideCard : Claim7 := { stood := { row := matchWideRow, standIns := [], harness := (true, "d9d167f10d6e6623bcaf4f65bbdf8b6852e58349126f1e615e08833e4dcc16cf"), looks := false }, kinds := [], alts := [], laidByText := true, laidKinds := [.data], laidTests := true, laidLooks := .later }
def MatchWideCardSaid : Prop := Claim7.holds Tryd.pinned (.plain (OpenSpec.ofChange matchWideSpec)) matchWideCard

/-- THE SECOND FORM's CARD OF 'tollbridgelaw02.MatchTells'. -/
def matchTellsUptoCard : Claim7 := { stood := { row := matchTellsUptoRow, standIns := [], harness := (true, "d9d167f10d6e6623bcaf4f65bbdf8b6852e58349126f1e615e08833e4dcc16cf"), looks := false }, kinds := [], alts := [], laidByText := true, laidKinds := [.data], laidTests := true, laidLooks := .later }
def MatchTellsUptoCardSaid : Prop := Claim7.holds Tryd.pinned (.plain (OpenSpec.upto matchTellsSpec)) matchTellsUptoCard

/-- THE SECOND FORM's CARD OF 'tollbridgelaw02.MatchLies'. -/
def matchLiesUptoCard : Claim7 := { stood := { row := matchLiesUptoRow, standIns := [], harness := (true, "d9d167f10d6e6623bcaf4f65bbdf8b6852e58349126f1e615e08833e4dcc16cf"), looks := false }, kinds := [], alts := [], laidByText := true, laidKinds := [.data], laidTests := true, laidLooks := .later }
def MatchLiesUptoCardSaid : Prop := Claim7.holds Tryd.pinned (.plain (OpenSpec.upto matchLiesSpec)) matchLiesUptoCard

/-- THE SECOND FORM's CARD OF 'tollbridgelaw02.MatchBoth'. -/
def matchBothUptoCard : Claim7 := { stood := { row := matchBothUptoRow, standIns := [], harness := (true, "d9d167f10d6e6623bcaf4f65bbdf8b6852e58349126f1e615e08833e4dcc16cf"), looks := false }, kinds := [], alts := [], laidByText := true, laidKinds := [.data], laidTests := true, laidLooks := .later }
def MatchBothUptoCardSaid : Prop := Claim7.holds Tryd.pinned (.plain (OpenSpec.upto matchBothSpec)) matchBothUptoCard

/-- THE SECOND FORM's CARD OF 'tollbridgelaw02.MatchOrder'. -/
def matchOrderUptoCard : Claim7 := { stood := { row := matchOrderUptoRow, standIns := [], harness := (true, "d9d167f10d6e6623bcaf4f65bbdf8b6852e58349126f1e615e08833e4dcc16cf"), looks := false }, kinds := [], alts := [], laidByText := true, laidKinds := [.data], laidTests := true, laidLooks := .later }
def MatchOrderUptoCardSaid : Prop := Claim7.holds Tryd.pinned (.plain (OpenSpec.upto matchOrderSpec)) matchOrderUptoCard

/-- THE SECOND FORM's CARD OF 'tollbridgelaw02.MatchWithin'. -/
def matchWithinUptoCard : Claim7 := { stood := { row := matchWithinUptoRow, standIns := [], harness := (true, "d9d167f10d6e6623bcaf4f65bbdf8b6852e58349126f1e615e08833e4dcc16cf"), looks := false }, kinds := [], alts := [], laidByText := true, laidKinds := [.data], laidTests := true, laidLooks := .later }
def MatchWithinUptoCardSaid : Prop := Claim7.holds Tryd.pinned (.plain (OpenSpec.upto matchWithinSpec)) matchWithinUptoCard

/-- THE SECOND FORM's CARD OF 'tollbridgelaw02.MatchWide'. -/
def matchWideUptoCard : Claim7 := { stood := { row := matchWideUptoRow, standIns := [], harness := (true, "d9d167f10d6e6623bcaf4f65bbdf8b6852e58349126f1e615e08833e4dcc16cf"), looks := false }, kinds := [], alts := [], laidByText := true, laidKinds := [.data], laidTests := true, laidLooks := .later }
def MatchWideUptoCardSaid : Prop := Claim7.holds Tryd.pinned (.plain (OpenSpec.upto matchWideSpec)) matchWideUptoCard
end Rows
end Go.Proofs.YtmonlbmjgjapoaaDoor
