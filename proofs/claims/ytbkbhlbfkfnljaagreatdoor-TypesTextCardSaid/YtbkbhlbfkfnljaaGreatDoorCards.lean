/-
  DERIVED. GIVEN WITH THE SEED: THE CARDS: each row of YtbkbhlbfkfnljaaGreatDoorRows.lean that lists a variable, with what it lists TIED to the program's text (the seventh form; the later family's looks); each row that meets fmt, with fmt's text TOLD by the authors' own Lean function (tested against real Go, not proved from fmt's source: count such statements apart). THE CARD IS WHAT COUNTS. Prove the row's statement (the work); the ties are given (YtbkbhlbfkfnljaaGreatDoorTie.lean); close each card by the builder's one call (the guide's Derived/Test/ToyasCard.lean, 'card_holds'). Laid BY PROGRAM, IN A SANDBOX (cutbox-door.mjs). By AI agents, Wed Nov 11 2026. No macro, syntax, notation, axiom, sorry.
-/
import Derived.Test.YtbkbhlbfkfnljaaGreatDoorRows
import GoSem.ClaimSeven
namespace Go.Proofs.YtbkbhlbfkfnljaaGreatDoor
namespace Rows

/-- THE TIED CARD OF 'transputerlaw09.TypesText'. -/
def typesTextCard : Claim7 := { stood := { row := typesTextRow, standIns := [], harness := (true, "5a17a3c4693399328bbb8b7d4504a296a82bdab3b31c9af0d4c824172f34193c"), looks := false }, kinds := [], alts := [], laidByText := true, laidKinds := [.data, .data, .data, .data, .data, .pinned], laidTests := true, laidLooks := .later }
def TypesTextCardSaid : Prop := Claim7.holds Tryz.pinned (.plain (OpenSpec.ofChange typesTextSpec)) typesTextCard

/-- THE SECOND FORM's CARD OF 'transputerlaw09.TypesText'. -/
def typesTextUptoCard : Claim7 := { stood := { row := typesTextUptoRow, standIns := [], harness := (true, "5a17a3c4693399328bbb8b7d4504a296a82bdab3b31c9af0d4c824172f34193c"), looks := false }, kinds := [], alts := [], laidByText := true, laidKinds := [.data, .data, .data, .data, .data, .pinned], laidTests := true, laidLooks := .later }
def TypesTextUptoCardSaid : Prop := Claim7.holds Tryz.pinned (.plain (OpenSpec.upto typesTextSpec)) typesTextUptoCard
end Rows
end Go.Proofs.YtbkbhlbfkfnljaaGreatDoor
