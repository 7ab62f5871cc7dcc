/-
  NARROWER THAN 'FOR EVERY INPUT', by the rows' own cells (each row's printed sentence says how): TypesMay: laid · TypesTokens: laid · TypesFront: laid · TypesValues: laid · TypesFind: laid · TypesBack: laid · TypesVariants: laid.
  DERIVED. THE GIVEN ROWS OF THIS SEAT. 7 by the template 'for every input the law returns true; each argument reads behind the call as it read before'; 0 by the template 'total and deterministic' (their statements: YtbkbhlbfkfnljaaDoorTotals.lean).
  GIVEN WITH THE SEED: the statements are not yours to turn. If you find one false, say at which input.
  Laid BY PROGRAM, IN A SANDBOX (cutbox-rows.mjs): the forced cells as the released guide's own fill.sh prints them over the translation 190d5cc68733ad11… (all of the seat's roots in one cut). By AI agents, Wed Nov 11 2026. No macro, syntax, notation, axiom, sorry.
-/
import Derived.Test.YtbkbhlbfkfnljaaDoorChecked
import GoSem.Claim
import GoSem.ClaimJoined
import GoSem.ClaimMapViews
import Derived.JoinedTies
import Derived.KernelRfl
namespace Go.Proofs.YtbkbhlbfkfnljaaDoor
/- THE CELL 'sum', in the pinned program and in every row, IS THE sha256 OF THE DUMP (.gsa) THAT YtbkbhlbfkfnljaaDoorProg.lean LOADS. Nothing in Lean hashes anything: it is a label: what it is worth is what the hold of that sum in a sandbox is worth. -/
noncomputable def Tryd.pinned : Pinned := { name := "ytbkbhlbfkfnljaadoor", sum := "190d5cc68733ad119618fbee7d0469b472ddbbeb75fba9571ea956cd28c298ea", checked := Tryd.checked }
namespace Rows
def none {H : Type} : Left H := { results := [], args := [] }

/- WHAT THE LISTED PACKAGE-LEVEL VARIABLES READ AS WHEN THE CALL BEGINS. Each datum BY PROGRAM (the guide's laid-datum.mjs) off the statement by which the dump's own 'gosem.cut.vars' lays the variable. In a bare row this is a premise. The card (YtbkbhlbfkfnljaaDoorCards.lean) ties it to the program's text. -/
def laid_transputer_types_kinds {H : Type} : DataW H := .agg [.agg [.lit (.string []), .lit (.int .i64 0)], .agg [.lit (.string [73, 78, 84]), .lit (.int .i64 4)], .agg [.lit (.string [66, 89, 84, 69]), .lit (.int .i64 1)], .agg [.lit (.string [66, 79, 79, 76]), .lit (.int .i64 1)], .agg [.lit (.string [67, 72, 65, 78]), .lit (.int .i64 0)], .agg [.lit (.string [84, 73, 77, 69, 82]), .lit (.int .i64 0)]]

/-- 'transputerlaw09.TypesMay': WHATEVER THE INPUT: true; the input reads as it did. -/
def typesMaySpec : ChangeSpec := { name := "typesMay", fn := fun _ => fun
  | [d1, d2, d3] => { results := [.lit (.bool true)], args := [d1, d2, d3] }
  | _ => none }
def typesMayRow : OpenClaim := { program := "ytbkbhlbfkfnljaadoor", sum := "190d5cc68733ad119618fbee7d0469b472ddbbeb75fba9571ea956cd28c298ea", func := "transputer/transputerlaw09.TypesMay", spec := "typesMay", unfollowed := true, recurses := true, named := ["transputer/types.kinds"], apart := false, laid := [("transputer/types.kinds", laid_transputer_types_kinds)] }
def TypesMaySaid : Prop := typesMayRow.holds Tryd.pinned (OpenSpec.ofChange typesMaySpec)

/-- ITS FALSE NEIGHBOUR: 'it returns false'. Refute it at one input. -/
def typesMayWrong : ChangeSpec := { name := "typesMay", fn := fun _ => fun
  | [d1, d2, d3] => { results := [.lit (.bool false)], args := [d1, d2, d3] }
  | _ => none }
def TypesMayWrongFalsely : Prop := typesMayRow.holds Tryd.pinned (OpenSpec.ofChange typesMayWrong)

/-- 'transputerlaw09.TypesTokens': WHATEVER THE INPUT: true; the input reads as it did. -/
def typesTokensSpec : ChangeSpec := { name := "typesTokens", fn := fun _ => fun
  | [d] => { results := [.lit (.bool true)], args := [d] }
  | _ => none }
def typesTokensRow : OpenClaim := { program := "ytbkbhlbfkfnljaadoor", sum := "190d5cc68733ad119618fbee7d0469b472ddbbeb75fba9571ea956cd28c298ea", func := "transputer/transputerlaw09.TypesTokens", spec := "typesTokens", unfollowed := true, recurses := true, named := ["transputer/types.kinds"], apart := false, laid := [("transputer/types.kinds", laid_transputer_types_kinds)] }
def TypesTokensSaid : Prop := typesTokensRow.holds Tryd.pinned (OpenSpec.ofChange typesTokensSpec)

/-- ITS FALSE NEIGHBOUR: 'it returns false'. Refute it at one input. -/
def typesTokensWrong : ChangeSpec := { name := "typesTokens", fn := fun _ => fun
  | [d] => { results := [.lit (.bool false)], args := [d] }
  | _ => none }
def TypesTokensWrongFalsely : Prop := typesTokensRow.holds Tryd.pinned (OpenSpec.ofChange typesTokensWrong)

/-- 'transputerlaw09.TypesFront': WHATEVER THE INPUT: true; the input reads as it did. -/
def typesFrontSpec : ChangeSpec := { name := "typesFront", fn := fun _ => fun
  | [d] => { results := [.lit (.bool true)], args := [d] }
  | _ => none }
def typesFrontRow : OpenClaim := { program := "ytbkbhlbfkfnljaadoor", sum := "190d5cc68733ad119618fbee7d0469b472ddbbeb75fba9571ea956cd28c298ea", func := "transputer/transputerlaw09.TypesFront", spec := "typesFront", unfollowed := true, recurses := true, named := ["transputer/types.kinds"], apart := false, laid := [("transputer/types.kinds", laid_transputer_types_kinds)] }
def TypesFrontSaid : Prop := typesFrontRow.holds Tryd.pinned (OpenSpec.ofChange typesFrontSpec)

/-- ITS FALSE NEIGHBOUR: 'it returns false'. Refute it at one input. -/
def typesFrontWrong : ChangeSpec := { name := "typesFront", fn := fun _ => fun
  | [d] => { results := [.lit (.bool false)], args := [d] }
  | _ => none }
def TypesFrontWrongFalsely : Prop := typesFrontRow.holds Tryd.pinned (OpenSpec.ofChange typesFrontWrong)

/-- 'transputerlaw09.TypesValues': WHATEVER THE INPUT: true; the input reads as it did. -/
def typesValuesSpec : ChangeSpec := { name := "typesValues", fn := fun _ => fun
  | [d1, d2] => { results := [.lit (.bool true)], args := [d1, d2] }
  | _ => none }
def typesValuesRow : OpenClaim := { program := "ytbkbhlbfkfnljaadoor", sum := "190d5cc68733ad119618fbee7d0469b472ddbbeb75fba9571ea956cd28c298ea", func := "transputer/transputerlaw09.TypesValues", spec := "typesValues", unfollowed := true, recurses := true, named := ["transputer/types.kinds"], apart := false, laid := [("transputer/types.kinds", laid_transputer_types_kinds)] }
def TypesValuesSaid : Prop := typesValuesRow.holds Tryd.pinned (OpenSpec.ofChange typesValuesSpec)

/-- ITS FALSE NEIGHBOUR: 'it returns false'. Refute it at one input. -/
def typesValuesWrong : ChangeSpec := { name := "typesValues", fn := fun _ => fun
  | [d1, d2] => { results := [.lit (.bool false)], args := [d1, d2] }
  | _ => none }
def TypesValuesWrongFalsely : Prop := typesValuesRow.holds Tryd.pinned (OpenSpec.ofChange typesValuesWrong)

/-- 'transputerlaw09.TypesFind': WHATEVER THE INPUT: true; the input reads as it did. -/
def typesFindSpec : ChangeSpec := { name := "typesFind", fn := fun _ => fun
  | [d1, d2] => { results := [.lit (.bool true)], args := [d1, d2] }
  | _ => none }
def typesFindRow : OpenClaim := { program := "ytbkbhlbfkfnljaadoor", sum := "190d5cc68733ad119618fbee7d0469b472ddbbeb75fba9571ea956cd28c298ea", func := "transputer/transputerlaw09.TypesFind", spec := "typesFind", unfollowed := true, recurses := true, named := ["transputer/types.kinds"], apart := false, laid := [("transputer/types.kinds", laid_transputer_types_kinds)] }
def TypesFindSaid : Prop := typesFindRow.holds Tryd.pinned (OpenSpec.ofChange typesFindSpec)

/-- ITS FALSE NEIGHBOUR: 'it returns false'. Refute it at one input. -/
def typesFindWrong : ChangeSpec := { name := "typesFind", fn := fun _ => fun
  | [d1, d2] => { results := [.lit (.bool false)], args := [d1, d2] }
  | _ => none }
def TypesFindWrongFalsely : Prop := typesFindRow.holds Tryd.pinned (OpenSpec.ofChange typesFindWrong)

/-- 'transputerlaw09.TypesBack': WHATEVER THE INPUT: true; the input reads as it did. -/
def typesBackSpec : ChangeSpec := { name := "typesBack", fn := fun _ => fun
  | [d1, d2] => { results := [.lit (.bool true)], args := [d1, d2] }
  | _ => none }
def typesBackRow : OpenClaim := { program := "ytbkbhlbfkfnljaadoor", sum := "190d5cc68733ad119618fbee7d0469b472ddbbeb75fba9571ea956cd28c298ea", func := "transputer/transputerlaw09.TypesBack", spec := "typesBack", unfollowed := true, recurses := true, named := ["transputer/types.kinds"], apart := false, laid := [("transputer/types.kinds", laid_transputer_types_kinds)] }
def TypesBackSaid : Prop := typesBackRow.holds Tryd.pinned (OpenSpec.ofChange typesBackSpec)

/-- ITS FALSE NEIGHBOUR: 'it returns false'. Refute it at one input. -/
def typesBackWrong : ChangeSpec := { name := "typesBack", fn := fun _ => fun
  | [d1, d2] => { results := [.lit (.bool false)], args := [d1, d2] }
  | _ => none }
def TypesBackWrongFalsely : Prop := typesBackRow.holds Tryd.pinned (OpenSpec.ofChange typesBackWrong)

/-- 'transputerlaw09.TypesVariants': WHATEVER THE INPUT: true; the input reads as it did. -/
def typesVariantsSpec : ChangeSpec := { name := "typesVariants", fn := fun _ => fun
  | [d] => { results := [.lit (.bool true)], args := [d] }
  | _ => none }
def typesVariantsRow : OpenClaim := { program := "ytbkbhlbfkfnljaadoor", sum := "190d5cc68733ad119618fbee7d0469b472ddbbeb75fba9571ea956cd28c298ea", func := "transputer/transputerlaw09.TypesVariants", spec := "typesVariants", unfollowed := true, recurses := true, named := ["transputer/types.kinds"], apart := false, laid := [("transputer/types.kinds", laid_transputer_types_kinds)] }
def TypesVariantsSaid : Prop := typesVariantsRow.holds Tryd.pinned (OpenSpec.ofChange typesVariantsSpec)

/-- ITS FALSE NEIGHBOUR: 'it returns false'. Refute it at one input. -/
def typesVariantsWrong : ChangeSpec := { name := "typesVariants", fn := fun _ => fun
  | [d] => { results := [.lit (.bool false)], args := [d] }
  | _ => none }
def TypesVariantsWrongFalsely : Prop := typesVariantsRow.holds Tryd.pinned (OpenSpec.ofChange typesVariantsWrong)

/- THE SECOND FORM. 'bulk': how many values and letters a reading holds, each counted each time it is reached (what is shared counts as often as it is met; a slice's spare places count too). A statement '..UptoSaid' is the law's where the arguments, and the package variables that the reading takes, are together of bulk at most 1048576: NARROWER than '..Said'. Prove '..Said' where nothing that the law and all that it calls make is longer than what came in: it says more and counts as full. Else prove '..UptoSaid'. A law counts once. -/
mutual
def uptoBulk {H : Type} : DataW H → Nat
  | .lit (.string bytes) => bytes.length + 1
  | .lit _ => 1
  | .nil => 1
  | .ptr d => uptoBulk d + 1
  | .slice elems spare => uptoBulkAll elems + uptoBulkAll spare + 1
  | .agg parts => uptoBulkAll parts + 1
  | .iface _ d => uptoBulk d + 1
  | .map entries => uptoBulkEntries entries + 1
  | .held _ => 1
def uptoBulkAll {H : Type} : List (DataW H) → Nat
  | [] => 0
  | d :: r => uptoBulk d + uptoBulkAll r
def uptoBulkEntries {H : Type} : List (Lit × DataW H) → Nat
  | [] => 0
  | x :: r => uptoBulkEntry x + uptoBulkEntries r
def uptoBulkEntry {H : Type} : Lit × DataW H → Nat
  | (.string bytes, d) => bytes.length + uptoBulk d + 1
  | (_, d) => uptoBulk d + 1
 end
def uptoSmall : (H : Type) → List (DataW H) → Bool := fun _ ds => decide (uptoBulkAll ds ≤ 1048576)
def OpenSpec.upto (s : _root_.Go.ChangeSpec) : _root_.Go.OpenSpec := { _root_.Go.OpenSpec.ofChange s with cond := some uptoSmall }

/-- 'transputerlaw09.TypesMay', WHERE WHAT IT READS IS OF BULK AT MOST 1048576: true; the input reads as it did. -/
def typesMayUptoRow : OpenClaim := { program := "ytbkbhlbfkfnljaadoor", sum := "190d5cc68733ad119618fbee7d0469b472ddbbeb75fba9571ea956cd28c298ea", func := "transputer/transputerlaw09.TypesMay", spec := "typesMay", unfollowed := true, recurses := true, named := ["transputer/types.kinds"], apart := false, laid := [("transputer/types.kinds", laid_transputer_types_kinds)], narrowed := true }
def TypesMayUptoSaid : Prop := typesMayUptoRow.holds Tryd.pinned (OpenSpec.upto typesMaySpec)

/-- 'transputerlaw09.TypesTokens', WHERE WHAT IT READS IS OF BULK AT MOST 1048576: true; the input reads as it did. -/
def typesTokensUptoRow : OpenClaim := { program := "ytbkbhlbfkfnljaadoor", sum := "190d5cc68733ad119618fbee7d0469b472ddbbeb75fba9571ea956cd28c298ea", func := "transputer/transputerlaw09.TypesTokens", spec := "typesTokens", unfollowed := true, recurses := true, named := ["transputer/types.kinds"], apart := false, laid := [("transputer/types.kinds", laid_transputer_types_kinds)], narrowed := true }
def TypesTokensUptoSaid : Prop := typesTokensUptoRow.holds Tryd.pinned (OpenSpec.upto typesTokensSpec)

/-- 'transputerlaw09.TypesFront', WHERE WHAT IT READS IS OF BULK AT MOST 1048576: true; the input reads as it did. -/
def typesFrontUptoRow : OpenClaim := { program := "ytbkbhlbfkfnljaadoor", sum := "190d5cc68733ad119618fbee7d0469b472ddbbeb75fba9571ea956cd28c298ea", func := "transputer/transputerlaw09.TypesFront", spec := "typesFront", unfollowed := true, recurses := true, named := ["transputer/types.kinds"], apart := false, laid := [("transputer/types.kinds", laid_transputer_types_kinds)], narrowed := true }
def TypesFrontUptoSaid : Prop := typesFrontUptoRow.holds Tryd.pinned (OpenSpec.upto typesFrontSpec)

/-- 'transputerlaw09.TypesValues', WHERE WHAT IT READS IS OF BULK AT MOST 1048576: true; the input reads as it did. -/
def typesValuesUptoRow : OpenClaim := { program := "ytbkbhlbfkfnljaadoor", sum := "190d5cc68733ad119618fbee7d0469b472ddbbeb75fba9571ea956cd28c298ea", func := "transputer/transputerlaw09.TypesValues", spec := "typesValues", unfollowed := true, recurses := true, named := ["transputer/types.kinds"], apart := false, laid := [("transputer/types.kinds", laid_transputer_types_kinds)], narrowed := true }
def TypesValuesUptoSaid : Prop := typesValuesUptoRow.holds Tryd.pinned (OpenSpec.upto typesValuesSpec)

/-- 'transputerlaw09.TypesFind', WHERE WHAT IT READS IS OF BULK AT MOST 1048576: true; the input reads as it did. -/
def typesFindUptoRow : OpenClaim := { program := "ytbkbhlbfkfnljaadoor", sum := "190d5cc68733ad119618fbee7d0469b472ddbbeb75fba9571ea956cd28c298ea", func := "transputer/transputerlaw09.TypesFind", spec := "typesFind", unfollowed := true, recurses := true, named := ["transputer/types.kinds"], apart := false, laid := [("transputer/types.kinds", laid_transputer_types_kinds)], narrowed := true }
def TypesFindUptoSaid : Prop := typesFindUptoRow.holds Tryd.pinned (OpenSpec.upto typesFindSpec)

/-- 'transputerlaw09.TypesBack', WHERE WHAT IT READS IS OF BULK AT MOST 1048576: true; the input reads as it did. -/
def typesBackUptoRow : OpenClaim := { program := "ytbkbhlbfkfnljaadoor", sum := "190d5cc68733ad119618fbee7d0469b472ddbbeb75fba9571ea956cd28c298ea", func := "transputer/transputerlaw09.TypesBack", spec := "typesBack", unfollowed := true, recurses := true, named := ["transputer/types.kinds"], apart := false, laid := [("transputer/types.kinds", laid_transputer_types_kinds)], narrowed := true }
def TypesBackUptoSaid : Prop := typesBackUptoRow.holds Tryd.pinned (OpenSpec.upto typesBackSpec)

/-- 'transputerlaw09.TypesVariants', WHERE WHAT IT READS IS OF BULK AT MOST 1048576: true; the input reads as it did. -/
def typesVariantsUptoRow : OpenClaim := { program := "ytbkbhlbfkfnljaadoor", sum := "190d5cc68733ad119618fbee7d0469b472ddbbeb75fba9571ea956cd28c298ea", func := "transputer/transputerlaw09.TypesVariants", spec := "typesVariants", unfollowed := true, recurses := true, named := ["transputer/types.kinds"], apart := false, laid := [("transputer/types.kinds", laid_transputer_types_kinds)], narrowed := true }
def TypesVariantsUptoSaid : Prop := typesVariantsUptoRow.holds Tryd.pinned (OpenSpec.upto typesVariantsSpec)

end Rows
end Go.Proofs.YtbkbhlbfkfnljaaDoor
