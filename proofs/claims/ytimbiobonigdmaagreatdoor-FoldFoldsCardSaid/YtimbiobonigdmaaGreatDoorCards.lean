/-
  DERIVED. GIVEN WITH THE SEED: THE CARDS: each row of YtimbiobonigdmaaGreatDoorRows.lean that lists a variable, with what it lists TIED to the program's text (the seventh form; the later family's looks); each row that meets fmt, with fmt's text TOLD by the authors' own Lean function (tested against real Go, not proved from fmt's source: count such statements apart). THE CARD IS WHAT COUNTS. Prove the row's statement (the work); the ties are given (YtimbiobonigdmaaGreatDoorTie.lean); close each card by the builder's one call (the guide's Derived/Test/ToyasCard.lean, 'card_holds'). Laid BY PROGRAM, IN A SANDBOX (cutbox-door.mjs). By AI agents, Wed Nov 11 2026. No macro, syntax, notation, axiom, sorry.
-/
import Derived.Test.YtimbiobonigdmaaGreatDoorRows
import GoSem.ClaimSeven
namespace Go.Proofs.YtimbiobonigdmaaGreatDoor
namespace Rows

/-- THE TIED CARD OF 'transputerlaw14.FoldConst'. -/
def foldConstCard : Claim7 := { stood := { row := foldConstRow, standIns := [], harness := (true, "de1ae313e83ca2871fd9cf1f2ebbb74c1b4937be897290f926dd9d6d645ff4cc"), looks := false }, kinds := [], alts := [], laidByText := true, laidKinds := [.data], laidTests := true, laidLooks := .later }
def FoldConstCardSaid : Prop := Claim7.holds Tryz.pinned (.plain (OpenSpec.ofChange foldConstSpec)) foldConstCard

/-- THE TIED CARD OF 'transputerlaw14.FoldFolds'. -/
def foldFoldsCard : Claim7 := { stood := { row := foldFoldsRow, standIns := [], harness := (true, "de1ae313e83ca2871fd9cf1f2ebbb74c1b4937be897290f926dd9d6d645ff4cc"), looks := false }, kinds := [], alts := [], laidByText := true, laidKinds := [.data], laidTests := true, laidLooks := .later }
def FoldFoldsCardSaid : Prop := Claim7.holds Tryz.pinned (.plain (OpenSpec.ofChange foldFoldsSpec)) foldFoldsCard

/-- THE SECOND FORM's CARD OF 'transputerlaw14.FoldConst'. -/
def foldConstUptoCard : Claim7 := { stood := { row := foldConstUptoRow, standIns := [], harness := (true, "de1ae313e83ca2871fd9cf1f2ebbb74c1b4937be897290f926dd9d6d645ff4cc"), looks := false }, kinds := [], alts := [], laidByText := true, laidKinds := [.data], laidTests := true, laidLooks := .later }
def FoldConstUptoCardSaid : Prop := Claim7.holds Tryz.pinned (.plain (OpenSpec.upto foldConstSpec)) foldConstUptoCard

/-- THE SECOND FORM's CARD OF 'transputerlaw14.FoldFolds'. -/
def foldFoldsUptoCard : Claim7 := { stood := { row := foldFoldsUptoRow, standIns := [], harness := (true, "de1ae313e83ca2871fd9cf1f2ebbb74c1b4937be897290f926dd9d6d645ff4cc"), looks := false }, kinds := [], alts := [], laidByText := true, laidKinds := [.data], laidTests := true, laidLooks := .later }
def FoldFoldsUptoCardSaid : Prop := Claim7.holds Tryz.pinned (.plain (OpenSpec.upto foldFoldsSpec)) foldFoldsUptoCard
end Rows
end Go.Proofs.YtimbiobonigdmaaGreatDoor
