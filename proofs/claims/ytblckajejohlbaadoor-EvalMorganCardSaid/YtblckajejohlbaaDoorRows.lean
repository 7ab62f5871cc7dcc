/-
  NARROWER THAN 'FOR EVERY INPUT', by the rows' own cells (each row's printed sentence says how): EvalStores: laid · EvalValues: loops, laid · EvalPlaces: loops, laid · EvalReads: loops, laid · EvalFolds: loops, laid · EvalPut: laid · EvalMorgan: loops, laid · EvalKinds: loops, laid.
  DERIVED. THE GIVEN ROWS OF THIS SEAT. 8 by the template 'for every input the law returns true; each argument reads behind the call as it read before'; 0 by the template 'total and deterministic' (their statements: YtblckajejohlbaaDoorTotals.lean).
  GIVEN WITH THE SEED: the statements are not yours to turn. If you find one false, say at which input.
  Laid BY PROGRAM, IN A SANDBOX (cutbox-rows.mjs): the forced cells as the released guide's own fill.sh prints them over the translation 1774b57cf9e792c4… (all of the seat's roots in one cut). By AI agents, Wed Nov 11 2026. No macro, syntax, notation, axiom, sorry.
-/
import Derived.Test.YtblckajejohlbaaDoorChecked
import GoSem.Claim
import GoSem.ClaimJoined
import GoSem.ClaimMapViews
import Derived.JoinedTies
import Derived.KernelRfl
namespace Go.Proofs.YtblckajejohlbaaDoor
/- THE CELL 'sum', in the pinned program and in every row, IS THE sha256 OF THE DUMP (.gsa) THAT YtblckajejohlbaaDoorProg.lean LOADS. Nothing in Lean hashes anything: it is a label: what it is worth is what the hold of that sum in a sandbox is worth. -/
noncomputable def Tryd.pinned : Pinned := { name := "ytblckajejohlbaadoor", sum := "1774b57cf9e792c4ded8d7df051090cd421720c824689cfab6c283d02312175d", checked := Tryd.checked }
namespace Rows
def none {H : Type} : Left H := { results := [], args := [] }

/- WHAT THE LISTED PACKAGE-LEVEL VARIABLES READ AS WHEN THE CALL BEGINS. Each datum BY PROGRAM (the guide's laid-datum.mjs) off the statement by which the dump's own 'gosem.cut.vars' lays the variable. In a bare row this is a premise. The card (YtblckajejohlbaaDoorCards.lean) ties it to the program's text. -/
def laid_transputer_eval_forms {H : Type} : DataW H := .agg [.agg [.lit (.int .i32 0), .lit (.int .i32 0), .lit (.int .i64 0), .lit (.int .u8 0), .lit (.int .u8 0), .lit (.int .u8 0), .lit (.int .u8 0), .lit (.int .i64 0)], .agg [.lit (.int .i32 (-2147483648)), .lit (.int .i32 2147483647), .lit (.int .i64 0), .lit (.int .u8 0), .lit (.int .u8 0), .lit (.int .u8 0), .lit (.int .u8 0), .lit (.int .i64 0)], .agg [.lit (.int .i32 0), .lit (.int .i32 0), .lit (.int .i64 255), .lit (.int .u8 0), .lit (.int .u8 0), .lit (.int .u8 0), .lit (.int .u8 0), .lit (.int .i64 0)], .agg [.lit (.int .i32 0), .lit (.int .i32 0), .lit (.int .i64 255), .lit (.int .u8 0), .lit (.int .u8 0), .lit (.int .u8 0), .lit (.int .u8 0), .lit (.int .i64 1)], .agg [.lit (.int .i32 0), .lit (.int .i32 0), .lit (.int .i64 0), .lit (.int .u8 23), .lit (.int .u8 26), .lit (.int .u8 0), .lit (.int .u8 0), .lit (.int .i64 1)], .agg [.lit (.int .i32 0), .lit (.int .i32 0), .lit (.int .i64 0), .lit (.int .u8 1), .lit (.int .u8 22), .lit (.int .u8 0), .lit (.int .u8 0), .lit (.int .i64 2)], .agg [.lit (.int .i32 0), .lit (.int .i32 0), .lit (.int .i64 0), .lit (.int .u8 0), .lit (.int .u8 0), .lit (.int .u8 1), .lit (.int .u8 3), .lit (.int .i64 1)]]
def laid_transputer_expr_forms {H : Type} : DataW H := .agg [.agg [.lit (.int .i32 0), .lit (.int .i32 0), .lit (.int .u8 0), .lit (.int .u8 0), .lit (.int .u8 0), .lit (.int .u8 0), .lit (.bool false), .lit (.int .i64 0)], .agg [.lit (.int .i32 (-2147483648)), .lit (.int .i32 2147483647), .lit (.int .u8 0), .lit (.int .u8 0), .lit (.int .u8 0), .lit (.int .u8 0), .lit (.bool false), .lit (.int .i64 0)], .agg [.lit (.int .i32 0), .lit (.int .i32 255), .lit (.int .u8 0), .lit (.int .u8 0), .lit (.int .u8 0), .lit (.int .u8 0), .lit (.bool false), .lit (.int .i64 0)], .agg [.lit (.int .i32 0), .lit (.int .i32 1), .lit (.int .u8 0), .lit (.int .u8 0), .lit (.int .u8 0), .lit (.int .u8 0), .lit (.bool false), .lit (.int .i64 0)], .agg [.lit (.int .i32 0), .lit (.int .i32 0), .lit (.int .u8 0), .lit (.int .u8 0), .lit (.int .u8 0), .lit (.int .u8 0), .lit (.bool true), .lit (.int .i64 0)], .agg [.lit (.int .i32 0), .lit (.int .i32 0), .lit (.int .u8 0), .lit (.int .u8 0), .lit (.int .u8 0), .lit (.int .u8 0), .lit (.bool true), .lit (.int .i64 1)], .agg [.lit (.int .i32 0), .lit (.int .i32 0), .lit (.int .u8 23), .lit (.int .u8 26), .lit (.int .u8 0), .lit (.int .u8 0), .lit (.bool false), .lit (.int .i64 1)], .agg [.lit (.int .i32 0), .lit (.int .i32 0), .lit (.int .u8 1), .lit (.int .u8 22), .lit (.int .u8 0), .lit (.int .u8 0), .lit (.bool false), .lit (.int .i64 2)], .agg [.lit (.int .i32 0), .lit (.int .i32 0), .lit (.int .u8 0), .lit (.int .u8 0), .lit (.int .u8 1), .lit (.int .u8 3), .lit (.bool false), .lit (.int .i64 1)], .agg [.lit (.int .i32 0), .lit (.int .i32 0), .lit (.int .u8 0), .lit (.int .u8 0), .lit (.int .u8 0), .lit (.int .u8 0), .lit (.bool true), .lit (.int .i64 0)]]

/-- 'transputerlaw17.EvalStores': WHATEVER THE INPUT: true; the input reads as it did. -/
def evalStoresSpec : ChangeSpec := { name := "evalStores", fn := fun _ => fun
  | [d1, d2, d3] => { results := [.lit (.bool true)], args := [d1, d2, d3] }
  | _ => none }
def evalStoresRow : OpenClaim := { program := "ytblckajejohlbaadoor", sum := "1774b57cf9e792c4ded8d7df051090cd421720c824689cfab6c283d02312175d", func := "transputer/transputerlaw17.EvalStores", spec := "evalStores", unfollowed := true, recurses := true, named := ["transputer/eval.forms"], apart := false, laid := [("transputer/eval.forms", laid_transputer_eval_forms)] }
def EvalStoresSaid : Prop := evalStoresRow.holds Tryd.pinned (OpenSpec.ofChange evalStoresSpec)

/-- ITS FALSE NEIGHBOUR: 'it returns false'. Refute it at one input. -/
def evalStoresWrong : ChangeSpec := { name := "evalStores", fn := fun _ => fun
  | [d1, d2, d3] => { results := [.lit (.bool false)], args := [d1, d2, d3] }
  | _ => none }
def EvalStoresWrongFalsely : Prop := evalStoresRow.holds Tryd.pinned (OpenSpec.ofChange evalStoresWrong)

/-- 'transputerlaw17.EvalValues': WHATEVER THE INPUT: true; the input reads as it did. -/
def evalValuesSpec : ChangeSpec := { name := "evalValues", fn := fun _ => fun
  | [d1, d2] => { results := [.lit (.bool true)], args := [d1, d2] }
  | _ => none }
def evalValuesRow : OpenClaim := { program := "ytblckajejohlbaadoor", sum := "1774b57cf9e792c4ded8d7df051090cd421720c824689cfab6c283d02312175d", func := "transputer/transputerlaw17.EvalValues", spec := "evalValues", unfollowed := true, recurses := true, named := ["transputer/eval.forms"], loops := true, apart := false, laid := [("transputer/eval.forms", laid_transputer_eval_forms)] }
def EvalValuesSaid : Prop := evalValuesRow.holds Tryd.pinned (OpenSpec.ofChange evalValuesSpec)

/-- ITS FALSE NEIGHBOUR: 'it returns false'. Refute it at one input. -/
def evalValuesWrong : ChangeSpec := { name := "evalValues", fn := fun _ => fun
  | [d1, d2] => { results := [.lit (.bool false)], args := [d1, d2] }
  | _ => none }
def EvalValuesWrongFalsely : Prop := evalValuesRow.holds Tryd.pinned (OpenSpec.ofChange evalValuesWrong)

/-- 'transputerlaw17.EvalPlaces': WHATEVER THE INPUT: true; the input reads as it did. -/
def evalPlacesSpec : ChangeSpec := { name := "evalPlaces", fn := fun _ => fun
  | [d1, d2, d3, d4, d5] => { results := [.lit (.bool true)], args := [d1, d2, d3, d4, d5] }
  | _ => none }
def evalPlacesRow : OpenClaim := { program := "ytblckajejohlbaadoor", sum := "1774b57cf9e792c4ded8d7df051090cd421720c824689cfab6c283d02312175d", func := "transputer/transputerlaw17.EvalPlaces", spec := "evalPlaces", unfollowed := true, recurses := true, named := ["transputer/eval.forms"], loops := true, apart := false, laid := [("transputer/eval.forms", laid_transputer_eval_forms)] }
def EvalPlacesSaid : Prop := evalPlacesRow.holds Tryd.pinned (OpenSpec.ofChange evalPlacesSpec)

/-- ITS FALSE NEIGHBOUR: 'it returns false'. Refute it at one input. -/
def evalPlacesWrong : ChangeSpec := { name := "evalPlaces", fn := fun _ => fun
  | [d1, d2, d3, d4, d5] => { results := [.lit (.bool false)], args := [d1, d2, d3, d4, d5] }
  | _ => none }
def EvalPlacesWrongFalsely : Prop := evalPlacesRow.holds Tryd.pinned (OpenSpec.ofChange evalPlacesWrong)

/-- 'transputerlaw17.EvalReads': WHATEVER THE INPUT: true; the input reads as it did. -/
def evalReadsSpec : ChangeSpec := { name := "evalReads", fn := fun _ => fun
  | [d1, d2, d3, d4] => { results := [.lit (.bool true)], args := [d1, d2, d3, d4] }
  | _ => none }
def evalReadsRow : OpenClaim := { program := "ytblckajejohlbaadoor", sum := "1774b57cf9e792c4ded8d7df051090cd421720c824689cfab6c283d02312175d", func := "transputer/transputerlaw17.EvalReads", spec := "evalReads", unfollowed := true, recurses := true, named := ["transputer/eval.forms"], loops := true, apart := false, laid := [("transputer/eval.forms", laid_transputer_eval_forms)] }
def EvalReadsSaid : Prop := evalReadsRow.holds Tryd.pinned (OpenSpec.ofChange evalReadsSpec)

/-- ITS FALSE NEIGHBOUR: 'it returns false'. Refute it at one input. -/
def evalReadsWrong : ChangeSpec := { name := "evalReads", fn := fun _ => fun
  | [d1, d2, d3, d4] => { results := [.lit (.bool false)], args := [d1, d2, d3, d4] }
  | _ => none }
def EvalReadsWrongFalsely : Prop := evalReadsRow.holds Tryd.pinned (OpenSpec.ofChange evalReadsWrong)

/-- 'transputerlaw17.EvalFolds': WHATEVER THE INPUT: true; the input reads as it did. -/
def evalFoldsSpec : ChangeSpec := { name := "evalFolds", fn := fun _ => fun
  | [d1, d2] => { results := [.lit (.bool true)], args := [d1, d2] }
  | _ => none }
def evalFoldsRow : OpenClaim := { program := "ytblckajejohlbaadoor", sum := "1774b57cf9e792c4ded8d7df051090cd421720c824689cfab6c283d02312175d", func := "transputer/transputerlaw17.EvalFolds", spec := "evalFolds", unfollowed := true, recurses := true, named := ["transputer/eval.forms", "transputer/expr.forms"], loops := true, apart := false, laid := [("transputer/expr.forms", laid_transputer_expr_forms), ("transputer/eval.forms", laid_transputer_eval_forms)] }
def EvalFoldsSaid : Prop := evalFoldsRow.holds Tryd.pinned (OpenSpec.ofChange evalFoldsSpec)

/-- ITS FALSE NEIGHBOUR: 'it returns false'. Refute it at one input. -/
def evalFoldsWrong : ChangeSpec := { name := "evalFolds", fn := fun _ => fun
  | [d1, d2] => { results := [.lit (.bool false)], args := [d1, d2] }
  | _ => none }
def EvalFoldsWrongFalsely : Prop := evalFoldsRow.holds Tryd.pinned (OpenSpec.ofChange evalFoldsWrong)

/-- 'transputerlaw17.EvalPut': WHATEVER THE INPUT: true; the input reads as it did. -/
def evalPutSpec : ChangeSpec := { name := "evalPut", fn := fun _ => fun
  | [d1, d2, d3, d4] => { results := [.lit (.bool true)], args := [d1, d2, d3, d4] }
  | _ => none }
def evalPutRow : OpenClaim := { program := "ytblckajejohlbaadoor", sum := "1774b57cf9e792c4ded8d7df051090cd421720c824689cfab6c283d02312175d", func := "transputer/transputerlaw17.EvalPut", spec := "evalPut", unfollowed := true, recurses := true, named := ["transputer/eval.forms"], apart := false, laid := [("transputer/eval.forms", laid_transputer_eval_forms)] }
def EvalPutSaid : Prop := evalPutRow.holds Tryd.pinned (OpenSpec.ofChange evalPutSpec)

/-- ITS FALSE NEIGHBOUR: 'it returns false'. Refute it at one input. -/
def evalPutWrong : ChangeSpec := { name := "evalPut", fn := fun _ => fun
  | [d1, d2, d3, d4] => { results := [.lit (.bool false)], args := [d1, d2, d3, d4] }
  | _ => none }
def EvalPutWrongFalsely : Prop := evalPutRow.holds Tryd.pinned (OpenSpec.ofChange evalPutWrong)

/-- 'transputerlaw17.EvalMorgan': WHATEVER THE INPUT: true; the input reads as it did. -/
def evalMorganSpec : ChangeSpec := { name := "evalMorgan", fn := fun _ => fun
  | [d1, d2, d3] => { results := [.lit (.bool true)], args := [d1, d2, d3] }
  | _ => none }
def evalMorganRow : OpenClaim := { program := "ytblckajejohlbaadoor", sum := "1774b57cf9e792c4ded8d7df051090cd421720c824689cfab6c283d02312175d", func := "transputer/transputerlaw17.EvalMorgan", spec := "evalMorgan", unfollowed := true, recurses := true, named := ["transputer/eval.forms"], loops := true, apart := false, laid := [("transputer/eval.forms", laid_transputer_eval_forms)] }
def EvalMorganSaid : Prop := evalMorganRow.holds Tryd.pinned (OpenSpec.ofChange evalMorganSpec)

/-- ITS FALSE NEIGHBOUR: 'it returns false'. Refute it at one input. -/
def evalMorganWrong : ChangeSpec := { name := "evalMorgan", fn := fun _ => fun
  | [d1, d2, d3] => { results := [.lit (.bool false)], args := [d1, d2, d3] }
  | _ => none }
def EvalMorganWrongFalsely : Prop := evalMorganRow.holds Tryd.pinned (OpenSpec.ofChange evalMorganWrong)

/-- 'transputerlaw17.EvalKinds': WHATEVER THE INPUT: true; the input reads as it did. -/
def evalKindsSpec : ChangeSpec := { name := "evalKinds", fn := fun _ => fun
  | [d1, d2, d3] => { results := [.lit (.bool true)], args := [d1, d2, d3] }
  | _ => none }
def evalKindsRow : OpenClaim := { program := "ytblckajejohlbaadoor", sum := "1774b57cf9e792c4ded8d7df051090cd421720c824689cfab6c283d02312175d", func := "transputer/transputerlaw17.EvalKinds", spec := "evalKinds", unfollowed := true, recurses := true, named := ["transputer/eval.forms"], loops := true, apart := false, laid := [("transputer/eval.forms", laid_transputer_eval_forms)] }
def EvalKindsSaid : Prop := evalKindsRow.holds Tryd.pinned (OpenSpec.ofChange evalKindsSpec)

/-- ITS FALSE NEIGHBOUR: 'it returns false'. Refute it at one input. -/
def evalKindsWrong : ChangeSpec := { name := "evalKinds", fn := fun _ => fun
  | [d1, d2, d3] => { results := [.lit (.bool false)], args := [d1, d2, d3] }
  | _ => none }
def EvalKindsWrongFalsely : Prop := evalKindsRow.holds Tryd.pinned (OpenSpec.ofChange evalKindsWrong)

/- THE SECOND FORM. 'bulk': how many values and letters a reading holds, each counted each time it is reached (what is shared counts as often as it is met; a slice's spare places count too). A statement '..UptoSaid' is the law's where the arguments, and the package variables that the reading takes, are together of bulk at most 1048576: NARROWER than '..Said'. Prove '..Said' where nothing that the law and all that it calls make is longer than what came in: it says more and counts as full. Else prove '..UptoSaid'. A law counts once. -/
mutual
def uptoBulk {H : Type} : DataW H → Nat
  | .lit (.string bytes) => bytes.length + 1
  | .lit _ => 1
  | .nil => 1
  | .ptr d => uptoBulk d + 1
  | .slice elems spare => uptoBulkAll elems + uptoBulkAll spare + 1
  | .agg parts => uptoBulkAll parts + 1
  | .iface _ d => uptoBulk d + 1
  | .map entries => uptoBulkEntries entries + 1
  | .held _ => 1
def uptoBulkAll {H : Type} : List (DataW H) → Nat
  | [] => 0
  | d :: r => uptoBulk d + uptoBulkAll r
def uptoBulkEntries {H : Type} : List (Lit × DataW H) → Nat
  | [] => 0
  | x :: r => uptoBulkEntry x + uptoBulkEntries r
def uptoBulkEntry {H : Type} : Lit × DataW H → Nat
  | (.string bytes, d) => bytes.length + uptoBulk d + 1
  | (_, d) => uptoBulk d + 1
 end
def uptoSmall : (H : Type) → List (DataW H) → Bool := fun _ ds => decide (uptoBulkAll ds ≤ 1048576)
def OpenSpec.upto (s : _root_.Go.ChangeSpec) : _root_.Go.OpenSpec := { _root_.Go.OpenSpec.ofChange s with cond := some uptoSmall }

/-- 'transputerlaw17.EvalStores', WHERE WHAT IT READS IS OF BULK AT MOST 1048576: true; the input reads as it did. -/
def evalStoresUptoRow : OpenClaim := { program := "ytblckajejohlbaadoor", sum := "1774b57cf9e792c4ded8d7df051090cd421720c824689cfab6c283d02312175d", func := "transputer/transputerlaw17.EvalStores", spec := "evalStores", unfollowed := true, recurses := true, named := ["transputer/eval.forms"], apart := false, laid := [("transputer/eval.forms", laid_transputer_eval_forms)], narrowed := true }
def EvalStoresUptoSaid : Prop := evalStoresUptoRow.holds Tryd.pinned (OpenSpec.upto evalStoresSpec)

/-- 'transputerlaw17.EvalValues', WHERE WHAT IT READS IS OF BULK AT MOST 1048576: true; the input reads as it did. -/
def evalValuesUptoRow : OpenClaim := { program := "ytblckajejohlbaadoor", sum := "1774b57cf9e792c4ded8d7df051090cd421720c824689cfab6c283d02312175d", func := "transputer/transputerlaw17.EvalValues", spec := "evalValues", unfollowed := true, recurses := true, named := ["transputer/eval.forms"], loops := true, apart := false, laid := [("transputer/eval.forms", laid_transputer_eval_forms)], narrowed := true }
def EvalValuesUptoSaid : Prop := evalValuesUptoRow.holds Tryd.pinned (OpenSpec.upto evalValuesSpec)

/-- 'transputerlaw17.EvalPlaces', WHERE WHAT IT READS IS OF BULK AT MOST 1048576: true; the input reads as it did. -/
def evalPlacesUptoRow : OpenClaim := { program := "ytblckajejohlbaadoor", sum := "1774b57cf9e792c4ded8d7df051090cd421720c824689cfab6c283d02312175d", func := "transputer/transputerlaw17.EvalPlaces", spec := "evalPlaces", unfollowed := true, recurses := true, named := ["transputer/eval.forms"], loops := true, apart := false, laid := [("transputer/eval.forms", laid_transputer_eval_forms)], narrowed := true }
def EvalPlacesUptoSaid : Prop := evalPlacesUptoRow.holds Tryd.pinned (OpenSpec.upto evalPlacesSpec)

/-- 'transputerlaw17.EvalReads', WHERE WHAT IT READS IS OF BULK AT MOST 1048576: true; the input reads as it did. -/
def evalReadsUptoRow : OpenClaim := { program := "ytblckajejohlbaadoor", sum := "1774b57cf9e792c4ded8d7df051090cd421720c824689cfab6c283d02312175d", func := "transputer/transputerlaw17.EvalReads", spec := "evalReads", unfollowed := true, recurses := true, named := ["transputer/eval.forms"], loops := true, apart := false, laid := [("transputer/eval.forms", laid_transputer_eval_forms)], narrowed := true }
def EvalReadsUptoSaid : Prop := evalReadsUptoRow.holds Tryd.pinned (OpenSpec.upto evalReadsSpec)

/-- 'transputerlaw17.EvalFolds', WHERE WHAT IT READS IS OF BULK AT MOST 1048576: true; the input reads as it did. -/
def evalFoldsUptoRow : OpenClaim := { program := "ytblckajejohlbaadoor", sum := "1774b57cf9e792c4ded8d7df051090cd421720c824689cfab6c283d02312175d", func := "transputer/transputerlaw17.EvalFolds", spec := "evalFolds", unfollowed := true, recurses := true, named := ["transputer/eval.forms", "transputer/expr.forms"], loops := true, apart := false, laid := [("transputer/expr.forms", laid_transputer_expr_forms), ("transputer/eval.forms", laid_transputer_eval_forms)], narrowed := true }
def EvalFoldsUptoSaid : Prop := evalFoldsUptoRow.holds Tryd.pinned (OpenSpec.upto evalFoldsSpec)

/-- 'transputerlaw17.EvalPut', WHERE WHAT IT READS IS OF BULK AT MOST 1048576: true; the input reads as it did. -/
def evalPutUptoRow : OpenClaim := { program := "ytblckajejohlbaadoor", sum := "1774b57cf9e792c4ded8d7df051090cd421720c824689cfab6c283d02312175d", func := "transputer/transputerlaw17.EvalPut", spec := "evalPut", unfollowed := true, recurses := true, named := ["transputer/eval.forms"], apart := false, laid := [("transputer/eval.forms", laid_transputer_eval_forms)], narrowed := true }
def EvalPutUptoSaid : Prop := evalPutUptoRow.holds Tryd.pinned (OpenSpec.upto evalPutSpec)

/-- 'transputerlaw17.EvalMorgan', WHERE WHAT IT READS IS OF BULK AT MOST 1048576: true; the input reads as it did. -/
def evalMorganUptoRow : OpenClaim := { program := "ytblckajejohlbaadoor", sum := "1774b57cf9e792c4ded8d7df051090cd421720c824689cfab6c283d02312175d", func := "transputer/transputerlaw17.EvalMorgan", spec := "evalMorgan", unfollowed := true, recurses := true, named := ["transputer/eval.forms"], loops := true, apart := false, laid := [("transputer/eval.forms", laid_transputer_eval_forms)], narrowed := true }
def EvalMorganUptoSaid : Prop := evalMorganUptoRow.holds Tryd.pinned (OpenSpec.upto evalMorganSpec)

/-- 'transputerlaw17.EvalKinds', WHERE WHAT IT READS IS OF BULK AT MOST 1048576: true; the input reads as it did. -/
def evalKindsUptoRow : OpenClaim := { program := "ytblckajejohlbaadoor", sum := "1774b57cf9e792c4ded8d7df051090cd421720c824689cfab6c283d02312175d", func := "transputer/transputerlaw17.EvalKinds", spec := "evalKinds", unfollowed := true, recurses := true, named := ["transputer/eval.forms"], loops := true, apart := false, laid := [("transputer/eval.forms", laid_transputer_eval_forms)], narrowed := true }
def EvalKindsUptoSaid : Prop := evalKindsUptoRow.holds Tryd.pinned (OpenSpec.upto evalKindsSpec)

end Rows
end Go.Proofs.YtblckajejohlbaaDoor
