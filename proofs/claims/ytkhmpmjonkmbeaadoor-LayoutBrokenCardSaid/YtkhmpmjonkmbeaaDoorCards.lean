/-
  DERIVED. GIVEN WITH THE SEED: THE CARDS: each row of YtkhmpmjonkmbeaaDoorRows.lean that lists a variable, with what it lists TIED to the program's text (the seventh form; the later family's looks); each row that meets fmt, with fmt's text TOLD by the authors' own Lean function (tested against real Go, not proved from fmt's source: count such statements apart). THE CARD IS WHAT COUNTS. Prove the row's statement (the work); the ties are given (YtkhmpmjonkmbeaaDoorTie.lean); close each card by the builder's one call (the guide's Derived/Test/ToyasCard.lean, 'card_holds'). Laid BY PROGRAM, IN A SANDBOX (cutbox-door.mjs). By AI agents, Wed Nov 11 2026. No macro, syntax, notation, axiom, sorry.
-/
import Derived.Test.YtkhmpmjonkmbeaaDoorRows
import GoSem.ClaimSeven
namespace Go.Proofs.YtkhmpmjonkmbeaaDoor
namespace Rows

/-- THE TIED CARD OF 'transputerlaw07.LayoutReads'. -/
def layoutReadsCard : Claim7 := { stood := { row := layoutReadsRow, standIns := [], harness := (true, "0265d6ae3ddd047e76b27baf8f84b8987e4e4d826c9d334e0216f83c6c8ebcd1"), looks := false }, kinds := [], alts := [], laidByText := true, laidKinds := [.data, .pinned], laidTests := true, laidLooks := .later }
def LayoutReadsCardSaid : Prop := Claim7.holds Tryd.pinned (.plain (OpenSpec.ofChange layoutReadsSpec)) layoutReadsCard

/-- THE TIED CARD OF 'transputerlaw07.LayoutPrints'. -/
def layoutPrintsCard : Claim7 := { stood := { row := layoutPrintsRow, standIns := [], harness := (true, "0265d6ae3ddd047e76b27baf8f84b8987e4e4d826c9d334e0216f83c6c8ebcd1"), looks := false }, kinds := [], alts := [], laidByText := true, laidKinds := [.data, .pinned], laidTests := true, laidLooks := .later }
def LayoutPrintsCardSaid : Prop := Claim7.holds Tryd.pinned (.plain (OpenSpec.ofChange layoutPrintsSpec)) layoutPrintsCard

/-- THE TIED CARD OF 'transputerlaw07.LayoutBack'. -/
def layoutBackCard : Claim7 := { stood := { row := layoutBackRow, standIns := [], harness := (true, "0265d6ae3ddd047e76b27baf8f84b8987e4e4d826c9d334e0216f83c6c8ebcd1"), looks := false }, kinds := [], alts := [], laidByText := true, laidKinds := [.data, .pinned], laidTests := true, laidLooks := .later }
def LayoutBackCardSaid : Prop := Claim7.holds Tryd.pinned (.plain (OpenSpec.ofChange layoutBackSpec)) layoutBackCard

/-- THE TIED CARD OF 'transputerlaw07.LayoutAgain'. -/
def layoutAgainCard : Claim7 := { stood := { row := layoutAgainRow, standIns := [], harness := (true, "0265d6ae3ddd047e76b27baf8f84b8987e4e4d826c9d334e0216f83c6c8ebcd1"), looks := false }, kinds := [], alts := [], laidByText := true, laidKinds := [.data, .pinned], laidTests := true, laidLooks := .later }
def LayoutAgainCardSaid : Prop := Claim7.holds Tryd.pinned (.plain (OpenSpec.ofChange layoutAgainSpec)) layoutAgainCard

/-- THE TIED CARD OF 'transputerlaw07.LayoutBlank'. -/
def layoutBlankCard : Claim7 := { stood := { row := layoutBlankRow, standIns := [], harness := (true, "0265d6ae3ddd047e76b27baf8f84b8987e4e4d826c9d334e0216f83c6c8ebcd1"), looks := false }, kinds := [], alts := [], laidByText := true, laidKinds := [.data, .pinned], laidTests := true, laidLooks := .later }
def LayoutBlankCardSaid : Prop := Claim7.holds Tryd.pinned (.plain (OpenSpec.ofChange layoutBlankSpec)) layoutBlankCard

/-- THE TIED CARD OF 'transputerlaw07.LayoutBroken'. -/
def layoutBrokenCard : Claim7 := { stood := { row := layoutBrokenRow, standIns := [], harness := (true, "0265d6ae3ddd047e76b27baf8f84b8987e4e4d826c9d334e0216f83c6c8ebcd1"), looks := false }, kinds := [], alts := [], laidByText := true, laidKinds := [.data, .pinned], laidTests := true, laidLooks := .later }
def LayoutBrokenCardSaid : Prop := Claim7.holds Tryd.pinned (.plain (OpenSpec.ofChange layoutBrokenSpec)) layoutBrokenCard

/-- THE TIED CARD OF 'transputerlaw07.LayoutKnown'. -/
def layoutKnownCard : Claim7 := { stood := { row := layoutKnownRow, standIns := [], harness := (true, "0265d6ae3ddd047e76b27baf8f84b8987e4e4d826c9d334e0216f83c6c8ebcd1"), looks := false }, kinds := [], alts := [], laidByText := true, laidKinds := [.data, .pinned], laidTests := true, laidLooks := .later }
def LayoutKnownCardSaid : Prop := Claim7.holds Tryd.pinned (.plain (OpenSpec.ofChange layoutKnownSpec)) layoutKnownCard

/-- THE SECOND FORM's CARD OF 'transputerlaw07.LayoutReads'. -/
def layoutReadsUptoCard : Claim7 := { stood := { row := layoutReadsUptoRow, standIns := [], harness := (true, "0265d6ae3ddd047e76b27baf8f84b8987e4e4d826c9d334e0216f83c6c8ebcd1"), looks := false }, kinds := [], alts := [], laidByText := true, laidKinds := [.data, .pinned], laidTests := true, laidLooks := .later }
def LayoutReadsUptoCardSaid : Prop := Claim7.holds Tryd.pinned (.plain (OpenSpec.upto layoutReadsSpec)) layoutReadsUptoCard

/-- THE SECOND FORM's CARD OF 'transputerlaw07.LayoutPrints'. -/
def layoutPrintsUptoCard : Claim7 := { stood := { row := layoutPrintsUptoRow, standIns := [], harness := (true, "0265d6ae3ddd047e76b27baf8f84b8987e4e4d826c9d334e0216f83c6c8ebcd1"), looks := false }, kinds := [], alts := [], laidByText := true, laidKinds := [.data, .pinned], laidTests := true, laidLooks := .later }
def LayoutPrintsUptoCardSaid : Prop := Claim7.holds Tryd.pinned (.plain (OpenSpec.upto layoutPrintsSpec)) layoutPrintsUptoCard

/-- THE SECOND FORM's CARD OF 'transputerlaw07.LayoutBack'. -/
def layoutBackUptoCard : Claim7 := { stood := { row := layoutBackUptoRow, standIns := [], harness := (true, "0265d6ae3ddd047e76b27baf8f84b8987e4e4d826c9d334e0216f83c6c8ebcd1"), looks := false }, kinds := [], alts := [], laidByText := true, laidKinds := [.data, .pinned], laidTests := true, laidLooks := .later }
def LayoutBackUptoCardSaid : Prop := Claim7.holds Tryd.pinned (.plain (OpenSpec.upto layoutBackSpec)) layoutBackUptoCard

/-- THE SECOND FORM's CARD OF 'transputerlaw07.LayoutAgain'. -/
def layoutAgainUptoCard : Claim7 := { stood := { row := layoutAgainUptoRow, standIns := [], harness := (true, "0265d6ae3ddd047e76b27baf8f84b8987e4e4d826c9d334e0216f83c6c8ebcd1"), looks := false }, kinds := [], alts := [], laidByText := true, laidKinds := [.data, .pinned], laidTests := true, laidLooks := .later }
def LayoutAgainUptoCardSaid : Prop := Claim7.holds Tryd.pinned (.plain (OpenSpec.upto layoutAgainSpec)) layoutAgainUptoCard

/-- THE SECOND FORM's CARD OF 'transputerlaw07.LayoutBlank'. -/
def layoutBlankUptoCard : Claim7 := { stood := { row := layoutBlankUptoRow, standIns := [], harness := (true, "0265d6ae3ddd047e76b27baf8f84b8987e4e4d826c9d334e0216f83c6c8ebcd1"), looks := false }, kinds := [], alts := [], laidByText := true, laidKinds := [.data, .pinned], laidTests := true, laidLooks := .later }
def LayoutBlankUptoCardSaid : Prop := Claim7.holds Tryd.pinned (.plain (OpenSpec.upto layoutBlankSpec)) layoutBlankUptoCard

/-- THE SECOND FORM's CARD OF 'transputerlaw07.LayoutBroken'. -/
def layoutBrokenUptoCard : Claim7 := { stood := { row := layoutBrokenUptoRow, standIns := [], harness := (true, "0265d6ae3ddd047e76b27baf8f84b8987e4e4d826c9d334e0216f83c6c8ebcd1"), looks := false }, kinds := [], alts := [], laidByText := true, laidKinds := [.data, .pinned], laidTests := true, laidLooks := .later }
def LayoutBrokenUptoCardSaid : Prop := Claim7.holds Tryd.pinned (.plain (OpenSpec.upto layoutBrokenSpec)) layoutBrokenUptoCard

/-- THE SECOND FORM's CARD OF 'transputerlaw07.LayoutKnown'. -/
def layoutKnownUptoCard : Claim7 := { stood := { row := layoutKnownUptoRow, standIns := [], harness := (true, "0265d6ae3ddd047e76b27baf8f84b8987e4e4d826c9d334e0216f83c6c8ebcd1"), looks := false }, kinds := [], alts := [], laidByText := true, laidKinds := [.data, .pinned], laidTests := true, laidLooks := .later }
def LayoutKnownUptoCardSaid : Prop := Claim7.holds Tryd.pinned (.plain (OpenSpec.upto layoutKnownSpec)) layoutKnownUptoCard
end Rows
end Go.Proofs.YtkhmpmjonkmbeaaDoor
