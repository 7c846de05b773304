/-
  DERIVED. GIVEN WITH THE SEED: THE CARDS: each row of YtanbogoionkinaaGreatDoorRows.lean that lists a variable, with what it lists TIED to the program's text (the seventh form; the later family's looks); each row that meets fmt, with fmt's text TOLD by the authors' own Lean function (tested against real Go, not proved from fmt's source: count such statements apart). THE CARD IS WHAT COUNTS. Prove the row's statement (the work); the ties are given (YtanbogoionkinaaGreatDoorTie.lean); close each card by the builder's one call (the guide's Derived/Test/ToyasCard.lean, 'card_holds'). Laid BY PROGRAM, IN A SANDBOX (cutbox-door.mjs). By AI agents, Wed Nov 11 2026. No macro, syntax, notation, axiom, sorry.
-/
import Derived.Test.YtanbogoionkinaaGreatDoorRows
import GoSem.ClaimSeven
namespace Go.Proofs.YtanbogoionkinaaGreatDoor
namespace Rows

/-- THE TIED CARD OF 'wapentakelaw08.WalPlays'. -/
def walPlaysCard : Claim7 := { stood := { row := walPlaysRow, standIns := [], harness := (true, "bf15c81148c557d744b78b02bfdd208e68c941cbc7f6074f59685aa2bef39d7c"), looks := true }, kinds := [], alts := [], laidByText := true, laidKinds := [.data, .data, .data, .sentinel, .sentinel], laidTests := true, laidLooks := .later }
def WalPlaysCardSaid : Prop := Claim7.holds Tryz.pinned (.plain (OpenSpec.ofChange walPlaysSpec)) walPlaysCard

/-- THE TIED CARD OF 'wapentakelaw08.WalNames'. -/
def walNamesCard : Claim7 := { stood := { row := walNamesRow, standIns := [], harness := (true, "bf15c81148c557d744b78b02bfdd208e68c941cbc7f6074f59685aa2bef39d7c"), looks := true }, kinds := [], alts := [], laidByText := true, laidKinds := [.data, .data, .data, .sentinel, .sentinel], laidTests := true, laidLooks := .later }
def WalNamesCardSaid : Prop := Claim7.holds Tryz.pinned (.plain (OpenSpec.ofChange walNamesSpec)) walNamesCard

/-- THE TIED CARD OF 'wapentakelaw08.WalKnown'. -/
def walKnownCard : Claim7 := { stood := { row := walKnownRow, standIns := [], harness := (true, "bf15c81148c557d744b78b02bfdd208e68c941cbc7f6074f59685aa2bef39d7c"), looks := true }, kinds := [], alts := [], laidByText := true, laidKinds := [.data, .data, .data, .sentinel, .sentinel], laidTests := true, laidLooks := .later }
def WalKnownCardSaid : Prop := Claim7.holds Tryz.pinned (.plain (OpenSpec.ofChange walKnownSpec)) walKnownCard

/-- THE TIED CARD OF 'wapentakelaw08.WalLasts'. -/
def walLastsCard : Claim7 := { stood := { row := walLastsRow, standIns := [], harness := (true, "bf15c81148c557d744b78b02bfdd208e68c941cbc7f6074f59685aa2bef39d7c"), looks := true }, kinds := [], alts := [], laidByText := true, laidKinds := [.data, .data, .data], laidTests := true, laidLooks := .later }
def WalLastsCardSaid : Prop := Claim7.holds Tryz.pinned (.plain (OpenSpec.ofChange walLastsSpec)) walLastsCard

/-- THE TIED CARD OF 'wapentakelaw08.WalBase'. -/
def walBaseCard : Claim7 := { stood := { row := walBaseRow, standIns := [], harness := (true, "bf15c81148c557d744b78b02bfdd208e68c941cbc7f6074f59685aa2bef39d7c"), looks := true }, kinds := [], alts := [], laidByText := true, laidKinds := [.data, .data, .data, .sentinel, .sentinel], laidTests := true, laidLooks := .later }
def WalBaseCardSaid : Prop := Claim7.holds Tryz.pinned (.plain (OpenSpec.ofChange walBaseSpec)) walBaseCard

/-- THE TIED CARD OF 'wapentakelaw08.WalCounts'. -/
def walCountsCard : Claim7 := { stood := { row := walCountsRow, standIns := [], harness := (true, "bf15c81148c557d744b78b02bfdd208e68c941cbc7f6074f59685aa2bef39d7c"), looks := true }, kinds := [], alts := [], laidByText := true, laidKinds := [.data, .data, .data], laidTests := true, laidLooks := .later }
def WalCountsCardSaid : Prop := Claim7.holds Tryz.pinned (.plain (OpenSpec.ofChange walCountsSpec)) walCountsCard

/-- THE SECOND FORM's CARD OF 'wapentakelaw08.WalPlays'. -/
def walPlaysUptoCard : Claim7 := { stood := { row := walPlaysUptoRow, standIns := [], harness := (true, "bf15c81148c557d744b78b02bfdd208e68c941cbc7f6074f59685aa2bef39d7c"), looks := true }, kinds := [], alts := [], laidByText := true, laidKinds := [.data, .data, .data, .sentinel, .sentinel], laidTests := true, laidLooks := .later }
def WalPlaysUptoCardSaid : Prop := Claim7.holds Tryz.pinned (.plain (OpenSpec.upto walPlaysSpec)) walPlaysUptoCard

/-- THE SECOND FORM's CARD OF 'wapentakelaw08.WalNames'. -/
def walNamesUptoCard : Claim7 := { stood := { row := walNamesUptoRow, standIns := [], harness := (true, "bf15c81148c557d744b78b02bfdd208e68c941cbc7f6074f59685aa2bef39d7c"), looks := true }, kinds := [], alts := [], laidByText := true, laidKinds := [.data, .data, .data, .sentinel, .sentinel], laidTests := true, laidLooks := .later }
def WalNamesUptoCardSaid : Prop := Claim7.holds Tryz.pinned (.plain (OpenSpec.upto walNamesSpec)) walNamesUptoCard

/-- THE SECOND FORM's CARD OF 'wapentakelaw08.WalKnown'. -/
def walKnownUptoCard : Claim7 := { stood := { row := walKnownUptoRow, standIns := [], harness := (true, "bf15c81148c557d744b78b02bfdd208e68c941cbc7f6074f59685aa2bef39d7c"), looks := true }, kinds := [], alts := [], laidByText := true, laidKinds := [.data, .data, .data, .sentinel, .sentinel], laidTests := true, laidLooks := .later }
def WalKnownUptoCardSaid : Prop := Claim7.holds Tryz.pinned (.plain (OpenSpec.upto walKnownSpec)) walKnownUptoCard

/-- THE SECOND FORM's CARD OF 'wapentakelaw08.WalLasts'. -/
def walLastsUptoCard : Claim7 := { stood := { row := walLastsUptoRow, standIns := [], harness := (true, "bf15c81148c557d744b78b02bfdd208e68c941cbc7f6074f59685aa2bef39d7c"), looks := true }, kinds := [], alts := [], laidByText := true, laidKinds := [.data, .data, .data], laidTests := true, laidLooks := .later }
def WalLastsUptoCardSaid : Prop := Claim7.holds Tryz.pinned (.plain (OpenSpec.upto walLastsSpec)) walLastsUptoCard

/-- THE SECOND FORM's CARD OF 'wapentakelaw08.WalBase'. -/
def walBaseUptoCard : Claim7 := { stood := { row := walBaseUptoRow, standIns := [], harness := (true, "bf15c81148c557d744b78b02bfdd208e68c941cbc7f6074f59685aa2bef39d7c"), looks := true }, kinds := [], alts := [], laidByText := true, laidKinds := [.data, .data, .data, .sentinel, .sentinel], laidTests := true, laidLooks := .later }
def WalBaseUptoCardSaid : Prop := Claim7.holds Tryz.pinned (.plain (OpenSpec.upto walBaseSpec)) walBaseUptoCard

/-- THE SECOND FORM's CARD OF 'wapentakelaw08.WalCounts'. -/
def walCountsUptoCard : Claim7 := { stood := { row := walCountsUptoRow, standIns := [], harness := (true, "bf15c81148c557d744b78b02bfdd208e68c941cbc7f6074f59685aa2bef39d7c"), looks := true }, kinds := [], alts := [], laidByText := true, laidKinds := [.data, .data, .data], laidTests := true, laidLooks := .later }
def WalCountsUptoCardSaid : Prop := Claim7.holds Tryz.pinned (.plain (OpenSpec.upto walCountsSpec)) walCountsUptoCard
end Rows
end Go.Proofs.YtanbogoionkinaaGreatDoor
