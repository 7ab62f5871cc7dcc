/-
  DERIVED. GIVEN WITH THE SEED: THE CARDS: each row of YtblckajejohlbaaDoorRows.lean that lists a variable, with what it lists TIED to the program's text (the seventh form; the later family's looks); each row that meets fmt, with fmt's text TOLD by the authors' own Lean function (tested against real Go, not proved from fmt's source: count such statements apart). THE CARD IS WHAT COUNTS. Prove the row's statement (the work); the ties are given (YtblckajejohlbaaDoorTie.lean); close each card by the builder's one call (the guide's Derived/Test/ToyasCard.lean, 'card_holds'). Laid BY PROGRAM, IN A SANDBOX (cutbox-door.mjs). By AI agents, Wed Nov 11 2026. No macro, syntax, notation, axiom, sorry.
-/
import Derived.Test.YtblckajejohlbaaDoorRows
import GoSem.ClaimSeven
namespace Go.Proofs.YtblckajejohlbaaDoor
namespace Rows

/-- THE TIED CARD OF 'transputerlaw17.EvalStores'. -/
def evalStoresCard : Claim7 := { stood := { row := evalStoresRow, standIns := [], harness := (true, "7b59244fd04dd7f2f84a01604520cf91ce0cc67acd28b15629020b1bbbb9d301"), looks := false }, kinds := [], alts := [], laidByText := true, laidKinds := [.data], laidTests := true, laidLooks := .later }
def EvalStoresCardSaid : Prop := Claim7.holds Tryd.pinned (.plain (OpenSpec.ofChange evalStoresSpec)) evalStoresCard

/-- THE TIED CARD OF 'transputerlaw17.EvalValues'. -/
def evalValuesCard : Claim7 := { stood := { row := evalValuesRow, standIns := [], harness := (true, "7b59244fd04dd7f2f84a01604520cf91ce0cc67acd28b15629020b1bbbb9d301"), looks := false }, kinds := [], alts := [], laidByText := true, laidKinds := [.data], laidTests := true, laidLooks := .later }
def EvalValuesCardSaid : Prop := Claim7.holds Tryd.pinned (.plain (OpenSpec.ofChange evalValuesSpec)) evalValuesCard

/-- THE TIED CARD OF 'transputerlaw17.EvalPlaces'. -/
def evalPlacesCard : Claim7 := { stood := { row := evalPlacesRow, standIns := [], harness := (true, "7b59244fd04dd7f2f84a01604520cf91ce0cc67acd28b15629020b1bbbb9d301"), looks := false }, kinds := [], alts := [], laidByText := true, laidKinds := [.data], laidTests := true, laidLooks := .later }
def EvalPlacesCardSaid : Prop := Claim7.holds Tryd.pinned (.plain (OpenSpec.ofChange evalPlacesSpec)) evalPlacesCard

/-- THE TIED CARD OF 'transputerlaw17.EvalReads'. -/
def evalReadsCard : Claim7 := { stood := { row := evalReadsRow, standIns := [], harness := (true, "7b59244fd04dd7f2f84a01604520cf91ce0cc67acd28b15629020b1bbbb9d301"), looks := false }, kinds := [], alts := [], laidByText := true, laidKinds := [.data], laidTests := true, laidLooks := .later }
def EvalReadsCardSaid : Prop := Claim7.holds Tryd.pinned (.plain (OpenSpec.ofChange evalReadsSpec)) evalReadsCard

/-- THE TIED CARD OF 'transputerlaw17.EvalFolds'. -/
def evalFoldsCard : Claim7 := { stood := { row := evalFoldsRow, standIns := [], harness := (true, "7b59244fd04dd7f2f84a01604520cf91ce0cc67acd28b15629020b1bbbb9d301"), looks := false }, kinds := [], alts := [], laidByText := true, laidKinds := [.data, .data], laidTests := true, laidLooks := .later }
def EvalFoldsCardSaid : Prop := Claim7.holds Tryd.pinned (.plain (OpenSpec.ofChange evalFoldsSpec)) evalFoldsCard

/-- THE TIED CARD OF 'transputerlaw17.EvalPut'. -/
def evalPutCard : Claim7 := { stood := { row := evalPutRow, standIns := [], harness := (true, "7b59244fd04dd7f2f84a01604520cf91ce0cc67acd28b15629020b1bbbb9d301"), looks := false }, kinds := [], alts := [], laidByText := true, laidKinds := [.data], laidTests := true, laidLooks := .later }
def EvalPutCardSaid : Prop := Claim7.holds Tryd.pinned (.plain (OpenSpec.ofChange evalPutSpec)) evalPutCard

/-- THE TIED CARD OF 'transputerlaw17.EvalMorgan'. -/
def evalMorganCard : Claim7 := { stood := { row := evalMorganRow, standIns := [], harness := (true, "7b59244fd04dd7f2f84a01604520cf91ce0cc67acd28b15629020b1bbbb9d301"), looks := false }, kinds := [], alts := [], laidByText := true, laidKinds := [.data], laidTests := true, laidLooks := .later }
def EvalMorganCardSaid : Prop := Claim7.holds Tryd.pinned (.plain (OpenSpec.ofChange evalMorganSpec)) evalMorganCard

/-- THE TIED CARD OF 'transputerlaw17.EvalKinds'. -/
def evalKindsCard : Claim7 := { stood := { row := evalKindsRow, standIns := [], harness := (true, "7b59244fd04dd7f2f84a01604520cf91ce0cc67acd28b15629020b1bbbb9d301"), looks := false }, kinds := [], alts := [], laidByText := true, laidKinds := [.data], laidTests := true, laidLooks := .later }
def EvalKindsCardSaid : Prop := Claim7.holds Tryd.pinned (.plain (OpenSpec.ofChange evalKindsSpec)) evalKindsCard

/-- THE SECOND FORM's CARD OF 'transputerlaw17.EvalStores'. -/
def evalStoresUptoCard : Claim7 := { stood := { row := evalStoresUptoRow, standIns := [], harness := (true, "7b59244fd04dd7f2f84a01604520cf91ce0cc67acd28b15629020b1bbbb9d301"), looks := false }, kinds := [], alts := [], laidByText := true, laidKinds := [.data], laidTests := true, laidLooks := .later }
def EvalStoresUptoCardSaid : Prop := Claim7.holds Tryd.pinned (.plain (OpenSpec.upto evalStoresSpec)) evalStoresUptoCard

/-- THE SECOND FORM's CARD OF 'transputerlaw17.EvalValues'. -/
def evalValuesUptoCard : Claim7 := { stood := { row := evalValuesUptoRow, standIns := [], harness := (true, "7b59244fd04dd7f2f84a01604520cf91ce0cc67acd28b15629020b1bbbb9d301"), looks := false }, kinds := [], alts := [], laidByText := true, laidKinds := [.data], laidTests := true, laidLooks := .later }
def EvalValuesUptoCardSaid : Prop := Claim7.holds Tryd.pinned (.plain (OpenSpec.upto evalValuesSpec)) evalValuesUptoCard

/-- THE SECOND FORM's CARD OF 'transputerlaw17.EvalPlaces'. -/
def evalPlacesUptoCard : Claim7 := { stood := { row := evalPlacesUptoRow, standIns := [], harness := (true, "7b59244fd04dd7f2f84a01604520cf91ce0cc67acd28b15629020b1bbbb9d301"), looks := false }, kinds := [], alts := [], laidByText := true, laidKinds := [.data], laidTests := true, laidLooks := .later }
def EvalPlacesUptoCardSaid : Prop := Claim7.holds Tryd.pinned (.plain (OpenSpec.upto evalPlacesSpec)) evalPlacesUptoCard

/-- THE SECOND FORM's CARD OF 'transputerlaw17.EvalReads'. -/
def evalReadsUptoCard : Claim7 := { stood := { row := evalReadsUptoRow, standIns := [], harness := (true, "7b59244fd04dd7f2f84a01604520cf91ce0cc67acd28b15629020b1bbbb9d301"), looks := false }, kinds := [], alts := [], laidByText := true, laidKinds := [.data], laidTests := true, laidLooks := .later }
def EvalReadsUptoCardSaid : Prop := Claim7.holds Tryd.pinned (.plain (OpenSpec.upto evalReadsSpec)) evalReadsUptoCard

/-- THE SECOND FORM's CARD OF 'transputerlaw17.EvalFolds'. -/
def evalFoldsUptoCard : Claim7 := { stood := { row := evalFoldsUptoRow, standIns := [], harness := (true, "7b59244fd04dd7f2f84a01604520cf91ce0cc67acd28b15629020b1bbbb9d301"), looks := false }, kinds := [], alts := [], laidByText := true, laidKinds := [.data, .data], laidTests := true, laidLooks := .later }
def EvalFoldsUptoCardSaid : Prop := Claim7.holds Tryd.pinned (.plain (OpenSpec.upto evalFoldsSpec)) evalFoldsUptoCard

/-- THE SECOND FORM's CARD OF 'transputerlaw17.EvalPut'. -/
def evalPutUptoCard : Claim7 := { stood := { row := evalPutUptoRow, standIns := [], harness := (true, "7b59244fd04dd7f2f84a01604520cf91ce0cc67acd28b15629020b1bbbb9d301"), looks := false }, kinds := [], alts := [], laidByText := true, laidKinds := [.data], laidTests := true, laidLooks := .later }
def EvalPutUptoCardSaid : Prop := Claim7.holds Tryd.pinned (.plain (OpenSpec.upto evalPutSpec)) evalPutUptoCard

/-- THE SECOND FORM's CARD OF 'transputerlaw17.EvalMorgan'. -/
def evalMorganUptoCard : Claim7 := { stood := { row := evalMorganUptoRow, standIns := [], harness := (true, "7b59244fd04dd7f2f84a01604520cf91ce0cc67acd28b15629020b1bbbb9d301"), looks := false }, kinds := [], alts := [], laidByText := true, laidKinds := [.data], laidTests := true, laidLooks := .later }
def EvalMorganUptoCardSaid : Prop := Claim7.holds Tryd.pinned (.plain (OpenSpec.upto evalMorganSpec)) evalMorganUptoCard

/-- THE SECOND FORM's CARD OF 'transputerlaw17.EvalKinds'. -/
def evalKindsUptoCard : Claim7 := { stood := { row := evalKindsUptoRow, standIns := [], harness := (true, "7b59244fd04dd7f2f84a01604520cf91ce0cc67acd28b15629020b1bbbb9d301"), looks := false }, kinds := [], alts := [], laidByText := true, laidKinds := [.data], laidTests := true, laidLooks := .later }
def EvalKindsUptoCardSaid : Prop := Claim7.holds Tryd.pinned (.plain (OpenSpec.upto evalKindsSpec)) evalKindsUptoCard
end Rows
end Go.Proofs.YtblckajejohlbaaDoor
