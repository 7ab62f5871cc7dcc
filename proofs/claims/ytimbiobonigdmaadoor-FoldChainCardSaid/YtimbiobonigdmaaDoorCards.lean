/-
  DERIVED. GIVEN WITH THE SEED: THE CARDS: each row of YtimbiobonigdmaaDoorRows.lean that lists a variable, with what it lists TIED to the program's text (the seventh form; the later family's looks); each row that meets fmt, with fmt's text TOLD by the authors' own Lean function (tested against real Go, not proved from fmt's source: count such statements apart). THE CARD IS WHAT COUNTS. Prove the row's statement (the work); the ties are given (YtimbiobonigdmaaDoorTie.lean); close each card by the builder's one call (the guide's Derived/Test/ToyasCard.lean, 'card_holds'). Laid BY PROGRAM, IN A SANDBOX (cutbox-door.mjs). By AI agents, Wed Nov 11 2026. No macro, syntax, notation, axiom, sorry.
-/
import Derived.Test.YtimbiobonigdmaaDoorRows
import GoSem.ClaimSeven
namespace Go.Proofs.YtimbiobonigdmaaDoor
namespace Rows

/-- THE TIED CARD OF 'transputerlaw14.FoldApply'. -/
def foldApplyCard : Claim7 := { stood := { row := foldApplyRow, standIns := [], harness := (true, "8fe5d72719e03dfdc57c721e13ff16128e40affeda70c10235029510524579be"), looks := false }, kinds := [], alts := [], laidByText := true, laidKinds := [.data], laidTests := true, laidLooks := .later }
def FoldApplyCardSaid : Prop := Claim7.holds Tryd.pinned (.plain (OpenSpec.ofChange foldApplySpec)) foldApplyCard

/-- THE TIED CARD OF 'transputerlaw14.FoldKeeps'. -/
def foldKeepsCard : Claim7 := { stood := { row := foldKeepsRow, standIns := [], harness := (true, "8fe5d72719e03dfdc57c721e13ff16128e40affeda70c10235029510524579be"), looks := false }, kinds := [], alts := [], laidByText := true, laidKinds := [.data], laidTests := true, laidLooks := .later }
def FoldKeepsCardSaid : Prop := Claim7.holds Tryd.pinned (.plain (OpenSpec.ofChange foldKeepsSpec)) foldKeepsCard

/-- THE TIED CARD OF 'transputerlaw14.FoldAgain'. -/
def foldAgainCard : Claim7 := { stood := { row := foldAgainRow, standIns := [], harness := (true, "8fe5d72719e03dfdc57c721e13ff16128e40affeda70c10235029510524579be"), looks := false }, kinds := [], alts := [], laidByText := true, laidKinds := [.data], laidTests := true, laidLooks := .later }
def FoldAgainCardSaid : Prop := Claim7.holds Tryd.pinned (.plain (OpenSpec.ofChange foldAgainSpec)) foldAgainCard

/-- THE TIED CARD OF 'transputerlaw14.FoldLaws'. -/
def foldLawsCard : Claim7 := { stood := { row := foldLawsRow, standIns := [], harness := (true, "8fe5d72719e03dfdc57c721e13ff16128e40affeda70c10235029510524579be"), looks := false }, kinds := [], alts := [], laidByText := true, laidKinds := [.data], laidTests := true, laidLooks := .later }
def FoldLawsCardSaid : Prop := Claim7.holds Tryd.pinned (.plain (OpenSpec.ofChange foldLawsSpec)) foldLawsCard

/-- THE TIED CARD OF 'transputerlaw14.FoldChain'. -/
def foldChainCard : Claim7 := { stood := { row := foldChainRow, standIns := [], harness := (true, "8fe5d72719e03dfdc57c721e13ff16128e40affeda70c10235029510524579be"), looks := false }, kinds := [], alts := [], laidByText := true, laidKinds := [.data], laidTests := true, laidLooks := .later }
def FoldChainCardSaid : Prop := Claim7.holds Tryd.pinned (.plain (OpenSpec.ofChange foldChainSpec)) foldChainCard

/-- THE TIED CARD OF 'transputerlaw14.FoldShadows'. -/
def foldShadowsCard : Claim7 := { stood := { row := foldShadowsRow, standIns := [], harness := (true, "8fe5d72719e03dfdc57c721e13ff16128e40affeda70c10235029510524579be"), looks := false }, kinds := [], alts := [], laidByText := true, laidKinds := [.data], laidTests := true, laidLooks := .later }
def FoldShadowsCardSaid : Prop := Claim7.holds Tryd.pinned (.plain (OpenSpec.ofChange foldShadowsSpec)) foldShadowsCard

/-- THE SECOND FORM's CARD OF 'transputerlaw14.FoldApply'. -/
def foldApplyUptoCard : Claim7 := { stood := { row := foldApplyUptoRow, standIns := [], harness := (true, "8fe5d72719e03dfdc57c721e13ff16128e40affeda70c10235029510524579be"), looks := false }, kinds := [], alts := [], laidByText := true, laidKinds := [.data], laidTests := true, laidLooks := .later }
def FoldApplyUptoCardSaid : Prop := Claim7.holds Tryd.pinned (.plain (OpenSpec.upto foldApplySpec)) foldApplyUptoCard

/-- THE SECOND FORM's CARD OF 'transputerlaw14.FoldKeeps'. -/
def foldKeepsUptoCard : Claim7 := { stood := { row := foldKeepsUptoRow, standIns := [], harness := (true, "8fe5d72719e03dfdc57c721e13ff16128e40affeda70c10235029510524579be"), looks := false }, kinds := [], alts := [], laidByText := true, laidKinds := [.data], laidTests := true, laidLooks := .later }
def FoldKeepsUptoCardSaid : Prop := Claim7.holds Tryd.pinned (.plain (OpenSpec.upto foldKeepsSpec)) foldKeepsUptoCard

/-- THE SECOND FORM's CARD OF 'transputerlaw14.FoldAgain'. -/
def foldAgainUptoCard : Claim7 := { stood := { row := foldAgainUptoRow, standIns := [], harness := (true, "8fe5d72719e03dfdc57c721e13ff16128e40affeda70c10235029510524579be"), looks := false }, kinds := [], alts := [], laidByText := true, laidKinds := [.data], laidTests := true, laidLooks := .later }
def FoldAgainUptoCardSaid : Prop := Claim7.holds Tryd.pinned (.plain (OpenSpec.upto foldAgainSpec)) foldAgainUptoCard

/-- THE SECOND FORM's CARD OF 'transputerlaw14.FoldLaws'. -/
def foldLawsUptoCard : Claim7 := { stood := { row := foldLawsUptoRow, standIns := [], harness := (true, "8fe5d72719e03dfdc57c721e13ff16128e40affeda70c10235029510524579be"), looks := false }, kinds := [], alts := [], laidByText := true, laidKinds := [.data], laidTests := true, laidLooks := .later }
def FoldLawsUptoCardSaid : Prop := Claim7.holds Tryd.pinned (.plain (OpenSpec.upto foldLawsSpec)) foldLawsUptoCard

/-- THE SECOND FORM's CARD OF 'transputerlaw14.FoldChain'. -/
def foldChainUptoCard : Claim7 := { stood := { row := foldChainUptoRow, standIns := [], harness := (true, "8fe5d72719e03dfdc57c721e13ff16128e40affeda70c10235029510524579be"), looks := false }, kinds := [], alts := [], laidByText := true, laidKinds := [.data], laidTests := true, laidLooks := .later }
def FoldChainUptoCardSaid : Prop := Claim7.holds Tryd.pinned (.plain (OpenSpec.upto foldChainSpec)) foldChainUptoCard

/-- THE SECOND FORM's CARD OF 'transputerlaw14.FoldShadows'. -/
def foldShadowsUptoCard : Claim7 := { stood := { row := foldShadowsUptoRow, standIns := [], harness := (true, "8fe5d72719e03dfdc57c721e13ff16128e40affeda70c10235029510524579be"), looks := false }, kinds := [], alts := [], laidByText := true, laidKinds := [.data], laidTests := true, laidLooks := .later }
def FoldShadowsUptoCardSaid : Prop := Claim7.holds Tryd.pinned (.plain (OpenSpec.upto foldShadowsSpec)) foldShadowsUptoCard
end Rows
end Go.Proofs.YtimbiobonigdmaaDoor
