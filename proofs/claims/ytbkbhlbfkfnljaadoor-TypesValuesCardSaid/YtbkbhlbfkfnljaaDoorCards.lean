/-
  DERIVED. GIVEN WITH THE SEED: THE CARDS: each row of YtbkbhlbfkfnljaaDoorRows.lean that lists a variable, with what it lists TIED to the program's text (the seventh form; the later family's looks); each row that meets fmt, with fmt's text TOLD by the authors' own Lean function (tested against real Go, not proved from fmt's source: count such statements apart). THE CARD IS WHAT COUNTS. Prove the row's statement (the work); the ties are given (YtbkbhlbfkfnljaaDoorTie.lean); close each card by the builder's one call (the guide's Derived/Test/ToyasCard.lean, 'card_holds'). Laid BY PROGRAM, IN A SANDBOX (cutbox-door.mjs). By AI agents, Wed Nov 11 2026. No macro, syntax, notation, axiom, sorry.
-/
import Derived.Test.YtbkbhlbfkfnljaaDoorRows
import GoSem.ClaimSeven
namespace Go.Proofs.YtbkbhlbfkfnljaaDoor
namespace Rows

/-- THE TIED CARD OF 'transputerlaw09.TypesMay'. -/
def typesMayCard : Claim7 := { stood := { row := typesMayRow, standIns := [], harness := (true, "2d70c0675bc42c514f74aba6819531fd5d433abf57bbe09639377a57125c8914"), looks := false }, kinds := [], alts := [], laidByText := true, laidKinds := [.data], laidTests := true, laidLooks := .later }
def TypesMayCardSaid : Prop := Claim7.holds Tryd.pinned (.plain (OpenSpec.ofChange typesMaySpec)) typesMayCard

/-- THE TIED CARD OF 'transputerlaw09.TypesTokens'. -/
def typesTokensCard : Claim7 := { stood := { row := typesTokensRow, standIns := [], harness := (true, "2d70c0675bc42c514f74aba6819531fd5d433abf57bbe09639377a57125c8914"), looks := false }, kinds := [], alts := [], laidByText := true, laidKinds := [.data], laidTests := true, laidLooks := .later }
def TypesTokensCardSaid : Prop := Claim7.holds Tryd.pinned (.plain (OpenSpec.ofChange typesTokensSpec)) typesTokensCard

/-- THE TIED CARD OF 'transputerlaw09.TypesFront'. -/
def typesFrontCard : Claim7 := { stood := { row := typesFrontRow, standIns := [], harness := (true, "2d70c0675bc42c514f74aba6819531fd5d433abf57bbe09639377a57125c8914"), looks := false }, kinds := [], alts := [], laidByText := true, laidKinds := [.data], laidTests := true, laidLooks := .later }
def TypesFrontCardSaid : Prop := Claim7.holds Tryd.pinned (.plain (OpenSpec.ofChange typesFrontSpec)) typesFrontCard

/-- THE TIED CARD OF 'transputerlaw09.TypesValues'. -/
def typesValuesCard : Claim7 := { stood := { row := typesValuesRow, standIns := [], harness := (true, "2d70c0675bc42c514f74aba6819531fd5d433abf57bbe09639377a57125c8914"), looks := false }, kinds := [], alts := [], laidByText := true, laidKinds := [.data], laidTests := true, laidLooks := .later }
def TypesValuesCardSaid : Prop := Claim7.holds Tryd.pinned (.plain (OpenSpec.ofChange typesValuesSpec)) typesValuesCard

/-- THE TIED CARD OF 'transputerlaw09.TypesFind'. -/
def typesFindCard : Claim7 := { stood := { row := typesFindRow, standIns := [], harness := (true, "2d70c0675bc42c514f74aba6819531fd5d433abf57bbe09639377a57125c8914"), looks := false }, kinds := [], alts := [], laidByText := true, laidKinds := [.data], laidTests := true, laidLooks := .later }
def TypesFindCardSaid : Prop := Claim7.holds Tryd.pinned (.plain (OpenSpec.ofChange typesFindSpec)) typesFindCard

/-- THE TIED CARD OF 'transputerlaw09.TypesBack'. -/
def typesBackCard : Claim7 := { stood := { row := typesBackRow, standIns := [], harness := (true, "2d70c0675bc42c514f74aba6819531fd5d433abf57bbe09639377a57125c8914"), looks := false }, kinds := [], alts := [], laidByText := true, laidKinds := [.data], laidTests := true, laidLooks := .later }
def TypesBackCardSaid : Prop := Claim7.holds Tryd.pinned (.plain (OpenSpec.ofChange typesBackSpec)) typesBackCard

/-- THE TIED CARD OF 'transputerlaw09.TypesVariants'. -/
def typesVariantsCard : Claim7 := { stood := { row := typesVariantsRow, standIns := [], harness := (true, "2d70c0675bc42c514f74aba6819531fd5d433abf57bbe09639377a57125c8914"), looks := false }, kinds := [], alts := [], laidByText := true, laidKinds := [.data], laidTests := true, laidLooks := .later }
def TypesVariantsCardSaid : Prop := Claim7.holds Tryd.pinned (.plain (OpenSpec.ofChange typesVariantsSpec)) typesVariantsCard

/-- THE SECOND FORM's CARD OF 'transputerlaw09.TypesMay'. -/
def typesMayUptoCard : Claim7 := { stood := { row := typesMayUptoRow, standIns := [], harness := (true, "2d70c0675bc42c514f74aba6819531fd5d433abf57bbe09639377a57125c8914"), looks := false }, kinds := [], alts := [], laidByText := true, laidKinds := [.data], laidTests := true, laidLooks := .later }
def TypesMayUptoCardSaid : Prop := Claim7.holds Tryd.pinned (.plain (OpenSpec.upto typesMaySpec)) typesMayUptoCard

/-- THE SECOND FORM's CARD OF 'transputerlaw09.TypesTokens'. -/
def typesTokensUptoCard : Claim7 := { stood := { row := typesTokensUptoRow, standIns := [], harness := (true, "2d70c0675bc42c514f74aba6819531fd5d433abf57bbe09639377a57125c8914"), looks := false }, kinds := [], alts := [], laidByText := true, laidKinds := [.data], laidTests := true, laidLooks := .later }
def TypesTokensUptoCardSaid : Prop := Claim7.holds Tryd.pinned (.plain (OpenSpec.upto typesTokensSpec)) typesTokensUptoCard

/-- THE SECOND FORM's CARD OF 'transputerlaw09.TypesFront'. -/
def typesFrontUptoCard : Claim7 := { stood := { row := typesFrontUptoRow, standIns := [], harness := (true, "2d70c0675bc42c514f74aba6819531fd5d433abf57bbe09639377a57125c8914"), looks := false }, kinds := [], alts := [], laidByText := true, laidKinds := [.data], laidTests := true, laidLooks := .later }
def TypesFrontUptoCardSaid : Prop := Claim7.holds Tryd.pinned (.plain (OpenSpec.upto typesFrontSpec)) typesFrontUptoCard

/-- THE SECOND FORM's CARD OF 'transputerlaw09.TypesValues'. -/
def typesValuesUptoCard : Claim7 := { stood := { row := typesValuesUptoRow, standIns := [], harness := (true, "2d70c0675bc42c514f74aba6819531fd5d433abf57bbe09639377a57125c8914"), looks := false }, kinds := [], alts := [], laidByText := true, laidKinds := [.data], laidTests := true, laidLooks := .later }
def TypesValuesUptoCardSaid : Prop := Claim7.holds Tryd.pinned (.plain (OpenSpec.upto typesValuesSpec)) typesValuesUptoCard

/-- THE SECOND FORM's CARD OF 'transputerlaw09.TypesFind'. -/
def typesFindUptoCard : Claim7 := { stood := { row := typesFindUptoRow, standIns := [], harness := (true, "2d70c0675bc42c514f74aba6819531fd5d433abf57bbe09639377a57125c8914"), looks := false }, kinds := [], alts := [], laidByText := true, laidKinds := [.data], laidTests := true, laidLooks := .later }
def TypesFindUptoCardSaid : Prop := Claim7.holds Tryd.pinned (.plain (OpenSpec.upto typesFindSpec)) typesFindUptoCard

/-- THE SECOND FORM's CARD OF 'transputerlaw09.TypesBack'. -/
def typesBackUptoCard : Claim7 := { stood := { row := typesBackUptoRow, standIns := [], harness := (true, "2d70c0675bc42c514f74aba6819531fd5d433abf57bbe09639377a57125c8914"), looks := false }, kinds := [], alts := [], laidByText := true, laidKinds := [.data], laidTests := true, laidLooks := .later }
def TypesBackUptoCardSaid : Prop := Claim7.holds Tryd.pinned (.plain (OpenSpec.upto typesBackSpec)) typesBackUptoCard

/-- THE SECOND FORM's CARD OF 'transputerlaw09.TypesVariants'. -/
def typesVariantsUptoCard : Claim7 := { stood := { row := typesVariantsUptoRow, standIns := [], harness := (true, "2d70c0675bc42c514f74aba6819531fd5d433abf57bbe09639377a57125c8914"), looks := false }, kinds := [], alts := [], laidByText := true, laidKinds := [.data], laidTests := true, laidLooks := .later }
def TypesVariantsUptoCardSaid : Prop := Claim7.holds Tryd.pinned (.plain (OpenSpec.upto typesVariantsSpec)) typesVariantsUptoCard
end Rows
end Go.Proofs.YtbkbhlbfkfnljaaDoor
