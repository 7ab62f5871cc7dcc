/-
  DERIVED. GIVEN WITH THE SEED: THE CARDS: each row of YtjdjkdgdbdenpaaGreatDoorRows.lean that lists a variable, with what it lists TIED to the program's text (the seventh form; the later family's looks); each row that meets fmt, with fmt's text TOLD by the authors' own Lean function (tested against real Go, not proved from fmt's source: count such statements apart). THE CARD IS WHAT COUNTS. Prove the row's statement (the work); the ties are given (YtjdjkdgdbdenpaaGreatDoorTie.lean); close each card by the builder's one call (the guide's Derived/Test/ToyasCard.lean, 'card_holds'). Laid BY PROGRAM, IN A SANDBOX (cutbox-door.mjs). By AI agents, Wed Nov 11 2026. No macro, syntax, notation, axiom, sorry.
-/
import Derived.Test.YtjdjkdgdbdenpaaGreatDoorRows
import GoSem.ClaimSeven
namespace Go.Proofs.YtjdjkdgdbdenpaaGreatDoor
namespace Rows

/-- THE TIED CARD OF 'transputerlaw06.AsmLengths'. -/
def asmLengthsCard : Claim7 := { stood := { row := asmLengthsRow, standIns := [], harness := (true, "39cdd2e37d7877ca4568d15bbdc26c17e12f68fd5577d94788b09dacd5b6640e"), looks := false }, kinds := [], alts := [], laidByText := true, laidKinds := [.data, .data, .data, .data, .data], laidTests := true, laidLooks := .later }
def AsmLengthsCardSaid : Prop := Claim7.holds Tryz.pinned (.plain (OpenSpec.ofChange asmLengthsSpec)) asmLengthsCard

/-- THE TIED CARD OF 'transputerlaw06.AsmCode'. -/
def asmCodeCard : Claim7 := { stood := { row := asmCodeRow, standIns := [], harness := (true, "39cdd2e37d7877ca4568d15bbdc26c17e12f68fd5577d94788b09dacd5b6640e"), looks := false }, kinds := [], alts := [], laidByText := true, laidKinds := [.data, .data, .data, .data, .data], laidTests := true, laidLooks := .later }
def AsmCodeCardSaid : Prop := Claim7.holds Tryz.pinned (.plain (OpenSpec.ofChange asmCodeSpec)) asmCodeCard

/-- THE TIED CARD OF 'transputerlaw06.AsmText'. -/
def asmTextCard : Claim7 := { stood := { row := asmTextRow, standIns := [], harness := (true, "39cdd2e37d7877ca4568d15bbdc26c17e12f68fd5577d94788b09dacd5b6640e"), looks := false }, kinds := [], alts := [], laidByText := true, laidKinds := [.data, .data, .data, .data, .data], laidTests := true, laidLooks := .later }
def AsmTextCardSaid : Prop := Claim7.holds Tryz.pinned (.plain (OpenSpec.ofChange asmTextSpec)) asmTextCard

/-- THE TIED CARD OF 'transputerlaw06.AsmRead'. -/
def asmReadCard : Claim7 := { stood := { row := asmReadRow, standIns := [], harness := (true, "39cdd2e37d7877ca4568d15bbdc26c17e12f68fd5577d94788b09dacd5b6640e"), looks := false }, kinds := [], alts := [], laidByText := true, laidKinds := [.data, .data, .data, .data, .data], laidTests := true, laidLooks := .later }
def AsmReadCardSaid : Prop := Claim7.holds Tryz.pinned (.plain (OpenSpec.ofChange asmReadSpec)) asmReadCard

/-- THE SECOND FORM's CARD OF 'transputerlaw06.AsmLengths'. -/
def asmLengthsUptoCard : Claim7 := { stood := { row := asmLengthsUptoRow, standIns := [], harness := (true, "39cdd2e37d7877ca4568d15bbdc26c17e12f68fd5577d94788b09dacd5b6640e"), looks := false }, kinds := [], alts := [], laidByText := true, laidKinds := [.data, .data, .data, .data, .data], laidTests := true, laidLooks := .later }
def AsmLengthsUptoCardSaid : Prop := Claim7.holds Tryz.pinned (.plain (OpenSpec.upto asmLengthsSpec)) asmLengthsUptoCard

/-- THE SECOND FORM's CARD OF 'transputerlaw06.AsmCode'. -/
def asmCodeUptoCard : Claim7 := { stood := { row := asmCodeUptoRow, standIns := [], harness := (true, "39cdd2e37d7877ca4568d15bbdc26c17e12f68fd5577d94788b09dacd5b6640e"), looks := false }, kinds := [], alts := [], laidByText := true, laidKinds := [.data, .data, .data, .data, .data], laidTests := true, laidLooks := .later }
def AsmCodeUptoCardSaid : Prop := Claim7.holds Tryz.pinned (.plain (OpenSpec.upto asmCodeSpec)) asmCodeUptoCard

/-- THE SECOND FORM's CARD OF 'transputerlaw06.AsmText'. -/
def asmTextUptoCard : Claim7 := { stood := { row := asmTextUptoRow, standIns := [], harness := (true, "39cdd2e37d7877ca4568d15bbdc26c17e12f68fd5577d94788b09dacd5b6640e"), looks := false }, kinds := [], alts := [], laidByText := true, laidKinds := [.data, .data, .data, .data, .data], laidTests := true, laidLooks := .later }
def AsmTextUptoCardSaid : Prop := Claim7.holds Tryz.pinned (.plain (OpenSpec.upto asmTextSpec)) asmTextUptoCard

/-- THE SECOND FORM's CARD OF 'transputerlaw06.AsmRead'. -/
def asmReadUptoCard : Claim7 := { stood := { row := asmReadUptoRow, standIns := [], harness := (true, "39cdd2e37d7877ca4568d15bbdc26c17e12f68fd5577d94788b09dacd5b6640e"), looks := false }, kinds := [], alts := [], laidByText := true, laidKinds := [.data, .data, .data, .data, .data], laidTests := true, laidLooks := .later }
def AsmReadUptoCardSaid : Prop := Claim7.holds Tryz.pinned (.plain (OpenSpec.upto asmReadSpec)) asmReadUptoCard
end Rows
end Go.Proofs.YtjdjkdgdbdenpaaGreatDoor
