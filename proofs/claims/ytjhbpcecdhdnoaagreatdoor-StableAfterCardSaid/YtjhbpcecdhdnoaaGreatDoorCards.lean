/-
  DERIVED. GIVEN WITH THE SEED: THE CARDS: each row of YtjhbpcecdhdnoaaGreatDoorRows.lean that lists a variable, with what it lists TIED to the program's text (the seventh form; the later family's looks); each row that meets fmt, with fmt's text TOLD by the authors' own Lean function (tested against real Go, not proved from fmt's source: count such statements apart). THE CARD IS WHAT COUNTS. Prove the row's statement (the work); the ties are given (YtjhbpcecdhdnoaaGreatDoorTie.lean); close each card by the builder's one call (the guide's Derived/Test/ToyasCard.lean, 'card_holds'). Laid BY PROGRAM, IN A SANDBOX (cutbox-door.mjs). By AI agents, Wed Nov 11 2026. No macro, syntax, notation, axiom, sorry.
-/
import Derived.Test.YtjhbpcecdhdnoaaGreatDoorRows
import GoSem.ClaimSeven
namespace Go.Proofs.YtjhbpcecdhdnoaaGreatDoor
namespace Rows

/-- THE TIED CARD OF 'wapentakelaw08.WalPlays'. -/
def walPlaysCard : Claim7 := { stood := { row := walPlaysRow, standIns := [], harness := (true, "69eb88d3384ea793e4bc717ba8c9744765aa201618afdccc5fed7d1933ce86a1"), looks := true }, kinds := [], alts := [], laidByText := true, laidKinds := [.data, .data, .data, .sentinel, .sentinel], laidTests := true, laidLooks := .later }
def WalPlaysCardSaid : Prop := Claim7.holds Tryz.pinned (.plain (OpenSpec.ofChange walPlaysSpec)) walPlaysCard

/-- THE TIED CARD OF 'wapentakelaw09.StableAfter'. -/
def stableAfterCard : Claim7 := { stood := { row := stableAfterRow, standIns := [], harness := (true, "69eb88d3384ea793e4bc717ba8c9744765aa201618afdccc5fed7d1933ce86a1"), looks := true }, kinds := [], alts := [], laidByText := true, laidKinds := [.data, .data, .data, .sentinel, .sentinel], laidTests := true, laidLooks := .later }
def StableAfterCardSaid : Prop := Claim7.holds Tryz.pinned (.plain (OpenSpec.ofChange stableAfterSpec)) stableAfterCard

/-- THE TIED CARD OF 'wapentakelaw09.StablePlays'. -/
def stablePlaysCard : Claim7 := { stood := { row := stablePlaysRow, standIns := [], harness := (true, "69eb88d3384ea793e4bc717ba8c9744765aa201618afdccc5fed7d1933ce86a1"), looks := true }, kinds := [], alts := [], laidByText := true, laidKinds := [.data, .data, .data, .sentinel, .sentinel], laidTests := true, laidLooks := .later }
def StablePlaysCardSaid : Prop := Claim7.holds Tryz.pinned (.plain (OpenSpec.ofChange stablePlaysSpec)) stablePlaysCard

/-- THE TIED CARD OF 'wapentakelaw09.StableKnown'. -/
def stableKnownCard : Claim7 := { stood := { row := stableKnownRow, standIns := [], harness := (true, "69eb88d3384ea793e4bc717ba8c9744765aa201618afdccc5fed7d1933ce86a1"), looks := true }, kinds := [], alts := [], laidByText := true, laidKinds := [.data, .data, .data, .sentinel, .sentinel], laidTests := true, laidLooks := .later }
def StableKnownCardSaid : Prop := Claim7.holds Tryz.pinned (.plain (OpenSpec.ofChange stableKnownSpec)) stableKnownCard

/-- THE TIED CARD OF 'wapentakelaw09.StableLasts'. -/
def stableLastsCard : Claim7 := { stood := { row := stableLastsRow, standIns := [], harness := (true, "69eb88d3384ea793e4bc717ba8c9744765aa201618afdccc5fed7d1933ce86a1"), looks := true }, kinds := [], alts := [], laidByText := true, laidKinds := [.data, .data, .data, .sentinel, .sentinel], laidTests := true, laidLooks := .later }
def StableLastsCardSaid : Prop := Claim7.holds Tryz.pinned (.plain (OpenSpec.ofChange stableLastsSpec)) stableLastsCard

/-- THE TIED CARD OF 'wapentakelaw09.StableCounts'. -/
def stableCountsCard : Claim7 := { stood := { row := stableCountsRow, standIns := [], harness := (true, "69eb88d3384ea793e4bc717ba8c9744765aa201618afdccc5fed7d1933ce86a1"), looks := true }, kinds := [], alts := [], laidByText := true, laidKinds := [.data, .data, .data, .sentinel, .sentinel], laidTests := true, laidLooks := .later }
def StableCountsCardSaid : Prop := Claim7.holds Tryz.pinned (.plain (OpenSpec.ofChange stableCountsSpec)) stableCountsCard

/-- THE TIED CARD OF 'wapentakelaw09.StableTwice'. -/
def stableTwiceCard : Claim7 := { stood := { row := stableTwiceRow, standIns := [], harness := (true, "69eb88d3384ea793e4bc717ba8c9744765aa201618afdccc5fed7d1933ce86a1"), looks := true }, kinds := [], alts := [], laidByText := true, laidKinds := [.data, .data, .data, .sentinel, .sentinel], laidTests := true, laidLooks := .later }
def StableTwiceCardSaid : Prop := Claim7.holds Tryz.pinned (.plain (OpenSpec.ofChange stableTwiceSpec)) stableTwiceCard

/-- THE SECOND FORM's CARD OF 'wapentakelaw08.WalPlays'. -/
def walPlaysUptoCard : Claim7 := { stood := { row := walPlaysUptoRow, standIns := [], harness := (true, "69eb88d3384ea793e4bc717ba8c9744765aa201618afdccc5fed7d1933ce86a1"), looks := true }, kinds := [], alts := [], laidByText := true, laidKinds := [.data, .data, .data, .sentinel, .sentinel], laidTests := true, laidLooks := .later }
def WalPlaysUptoCardSaid : Prop := Claim7.holds Tryz.pinned (.plain (OpenSpec.upto walPlaysSpec)) walPlaysUptoCard

/-- THE SECOND FORM's CARD OF 'wapentakelaw09.StableAfter'. -/
def stableAfterUptoCard : Claim7 := { stood := { row := stableAfterUptoRow, standIns := [], harness := (true, "69eb88d3384ea793e4bc717ba8c9744765aa201618afdccc5fed7d1933ce86a1"), looks := true }, kinds := [], alts := [], laidByText := true, laidKinds := [.data, .data, .data, .sentinel, .sentinel], laidTests := true, laidLooks := .later }
def StableAfterUptoCardSaid : Prop := Claim7.holds Tryz.pinned (.plain (OpenSpec.upto stableAfterSpec)) stableAfterUptoCard

/-- THE SECOND FORM's CARD OF 'wapentakelaw09.StablePlays'. -/
def stablePlaysUptoCard : Claim7 := { stood := { row := stablePlaysUptoRow, standIns := [], harness := (true, "69eb88d3384ea793e4bc717ba8c9744765aa201618afdccc5fed7d1933ce86a1"), looks := true }, kinds := [], alts := [], laidByText := true, laidKinds := [.data, .data, .data, .sentinel, .sentinel], laidTests := true, laidLooks := .later }
def StablePlaysUptoCardSaid : Prop := Claim7.holds Tryz.pinned (.plain (OpenSpec.upto stablePlaysSpec)) stablePlaysUptoCard

/-- THE SECOND FORM's CARD OF 'wapentakelaw09.StableKnown'. -/
def stableKnownUptoCard : Claim7 := { stood := { row := stableKnownUptoRow, standIns := [], harness := (true, "69eb88d3384ea793e4bc717ba8c9744765aa201618afdccc5fed7d1933ce86a1"), looks := true }, kinds := [], alts := [], laidByText := true, laidKinds := [.data, .data, .data, .sentinel, .sentinel], laidTests := true, laidLooks := .later }
def StableKnownUptoCardSaid : Prop := Claim7.holds Tryz.pinned (.plain (OpenSpec.upto stableKnownSpec)) stableKnownUptoCard

/-- THE SECOND FORM's CARD OF 'wapentakelaw09.StableLasts'. -/
def stableLastsUptoCard : Claim7 := { stood := { row := stableLastsUptoRow, standIns := [], harness := (true, "69eb88d3384ea793e4bc717ba8c9744765aa201618afdccc5fed7d1933ce86a1"), looks := true }, kinds := [], alts := [], laidByText := true, laidKinds := [.data, .data, .data, .sentinel, .sentinel], laidTests := true, laidLooks := .later }
def StableLastsUptoCardSaid : Prop := Claim7.holds Tryz.pinned (.plain (OpenSpec.upto stableLastsSpec)) stableLastsUptoCard

/-- THE SECOND FORM's CARD OF 'wapentakelaw09.StableCounts'. -/
def stableCountsUptoCard : Claim7 := { stood := { row := stableCountsUptoRow, standIns := [], harness := (true, "69eb88d3384ea793e4bc717ba8c9744765aa201618afdccc5fed7d1933ce86a1"), looks := true }, kinds := [], alts := [], laidByText := true, laidKinds := [.data, .data, .data, .sentinel, .sentinel], laidTests := true, laidLooks := .later }
def StableCountsUptoCardSaid : Prop := Claim7.holds Tryz.pinned (.plain (OpenSpec.upto stableCountsSpec)) stableCountsUptoCard

/-- THE SECOND FORM's CARD OF 'wapentakelaw09.StableTwice'. -/
def stableTwiceUptoCard : Claim7 := { stood := { row := stableTwiceUptoRow, standIns := [], harness := (true, "69eb88d3384ea793e4bc717ba8c9744765aa201618afdccc5fed7d1933ce86a1"), looks := true }, kinds := [], alts := [], laidByText := true, laidKinds := [.data, .data, .data, .sentinel, .sentinel], laidTests := true, laidLooks := .later }
def StableTwiceUptoCardSaid : Prop := Claim7.holds Tryz.pinned (.plain (OpenSpec.upto stableTwiceSpec)) stableTwiceUptoCard
end Rows
end Go.Proofs.YtjhbpcecdhdnoaaGreatDoor
