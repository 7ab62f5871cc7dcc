/-
  NARROWER THAN 'FOR EVERY INPUT', by the rows' own cells (each row's printed sentence says how): ExprTrees: loops, laid · ExprWrites: loops, laid · ExprBack: loops, laid · ExprText: loops, laid · ExprAgain: laid · ExprKnown: laid.
  DERIVED. THE GIVEN ROWS OF THIS SEAT. 6 by the template 'for every input the law returns true; each argument reads behind the call as it read before'; 0 by the template 'total and deterministic' (their statements: YtplcmcealeeppaaGreatDoorTotals.lean).
  GIVEN WITH THE SEED: the statements are not yours to turn. If you find one false, say at which input.
  Laid BY PROGRAM, IN A SANDBOX (cutbox-rows.mjs): the forced cells as the released guide's own fill.sh prints them over the translation 07ff26e48f933a9b… (all of the seat's roots in one cut). By AI agents, Wed Nov 11 2026. No macro, syntax, notation, axiom, sorry.
-/
import Derived.Test.YtplcmcealeeppaaGreatDoorChecked
import GoSem.PinnedTables
import GoSem.Claim
import GoSem.ClaimJoined
import GoSem.ClaimMapViews
import Derived.JoinedTies
import Derived.KernelRfl
namespace Go.Proofs.YtplcmcealeeppaaGreatDoor
/- THE CELL 'sum', in the pinned program and in every row, IS THE sha256 OF THE DUMP (.gsa) THAT YtplcmcealeeppaaGreatDoorProg.lean LOADS. Nothing in Lean hashes anything: it is a label: what it is worth is what the hold of that sum in a sandbox is worth. -/
noncomputable def Tryz.pinned : Pinned := { name := "ytplcmcealeeppaagreatdoor", sum := "07ff26e48f933a9b05cb37dac581c2b087d525a7064034c3e65c4ea53fc3c6aa", checked := Tryz.checked }
namespace Rows
def none {H : Type} : Left H := { results := [], args := [] }

/- WHAT THE LISTED PACKAGE-LEVEL VARIABLES READ AS WHEN THE CALL BEGINS. Each datum BY PROGRAM (the guide's laid-datum.mjs) off the statement by which the dump's own 'gosem.cut.vars' lays the variable. In a bare row this is a premise. The card (YtplcmcealeeppaaGreatDoorCards.lean) ties it to the program's text. -/
def laid_math_bits_deBruijn32tab {H : Type} : DataW H := .agg [.lit (.int .u8 0), .lit (.int .u8 1), .lit (.int .u8 28), .lit (.int .u8 2), .lit (.int .u8 29), .lit (.int .u8 14), .lit (.int .u8 24), .lit (.int .u8 3), .lit (.int .u8 30), .lit (.int .u8 22), .lit (.int .u8 20), .lit (.int .u8 15), .lit (.int .u8 25), .lit (.int .u8 17), .lit (.int .u8 4), .lit (.int .u8 8), .lit (.int .u8 31), .lit (.int .u8 27), .lit (.int .u8 13), .lit (.int .u8 23), .lit (.int .u8 21), .lit (.int .u8 19), .lit (.int .u8 16), .lit (.int .u8 7), .lit (.int .u8 26), .lit (.int .u8 12), .lit (.int .u8 18), .lit (.int .u8 6), .lit (.int .u8 11), .lit (.int .u8 5), .lit (.int .u8 10), .lit (.int .u8 9)]
def laid_math_bits_deBruijn64tab {H : Type} : DataW H := .agg [.lit (.int .u8 0), .lit (.int .u8 1), .lit (.int .u8 56), .lit (.int .u8 2), .lit (.int .u8 57), .lit (.int .u8 49), .lit (.int .u8 28), .lit (.int .u8 3), .lit (.int .u8 61), .lit (.int .u8 58), .lit (.int .u8 42), .lit (.int .u8 50), .lit (.int .u8 38), .lit (.int .u8 29), .lit (.int .u8 17), .lit (.int .u8 4), .lit (.int .u8 62), .lit (.int .u8 47), .lit (.int .u8 59), .lit (.int .u8 36), .lit (.int .u8 45), .lit (.int .u8 43), .lit (.int .u8 51), .lit (.int .u8 22), .lit (.int .u8 53), .lit (.int .u8 39), .lit (.int .u8 33), .lit (.int .u8 30), .lit (.int .u8 24), .lit (.int .u8 18), .lit (.int .u8 12), .lit (.int .u8 5), .lit (.int .u8 63), .lit (.int .u8 55), .lit (.int .u8 48), .lit (.int .u8 27), .lit (.int .u8 60), .lit (.int .u8 41), .lit (.int .u8 37), .lit (.int .u8 16), .lit (.int .u8 46), .lit (.int .u8 35), .lit (.int .u8 44), .lit (.int .u8 21), .lit (.int .u8 52), .lit (.int .u8 32), .lit (.int .u8 23), .lit (.int .u8 11), .lit (.int .u8 54), .lit (.int .u8 26), .lit (.int .u8 40), .lit (.int .u8 15), .lit (.int .u8 34), .lit (.int .u8 20), .lit (.int .u8 31), .lit (.int .u8 10), .lit (.int .u8 25), .lit (.int .u8 14), .lit (.int .u8 19), .lit (.int .u8 9), .lit (.int .u8 13), .lit (.int .u8 8), .lit (.int .u8 7), .lit (.int .u8 6)]
def laid_internal_strconv_uint64pow10 {H : Type} : DataW H := .agg [.lit (.int .u64 1), .lit (.int .u64 10), .lit (.int .u64 100), .lit (.int .u64 1000), .lit (.int .u64 10000), .lit (.int .u64 100000), .lit (.int .u64 1000000), .lit (.int .u64 10000000), .lit (.int .u64 100000000), .lit (.int .u64 1000000000), .lit (.int .u64 10000000000), .lit (.int .u64 100000000000), .lit (.int .u64 1000000000000), .lit (.int .u64 10000000000000), .lit (.int .u64 100000000000000), .lit (.int .u64 1000000000000000), .lit (.int .u64 10000000000000000), .lit (.int .u64 100000000000000000), .lit (.int .u64 1000000000000000000), .lit (.int .u64 10000000000000000000)]
def laid_unicode_utf8_acceptRanges {H : Type} : DataW H := .agg [.agg [.lit (.int .u8 128), .lit (.int .u8 191)], .agg [.lit (.int .u8 160), .lit (.int .u8 191)], .agg [.lit (.int .u8 128), .lit (.int .u8 159)], .agg [.lit (.int .u8 144), .lit (.int .u8 191)], .agg [.lit (.int .u8 128), .lit (.int .u8 143)], .agg [.lit (.int .u8 0), .lit (.int .u8 0)], .agg [.lit (.int .u8 0), .lit (.int .u8 0)], .agg [.lit (.int .u8 0), .lit (.int .u8 0)], .agg [.lit (.int .u8 0), .lit (.int .u8 0)], .agg [.lit (.int .u8 0), .lit (.int .u8 0)], .agg [.lit (.int .u8 0), .lit (.int .u8 0)], .agg [.lit (.int .u8 0), .lit (.int .u8 0)], .agg [.lit (.int .u8 0), .lit (.int .u8 0)], .agg [.lit (.int .u8 0), .lit (.int .u8 0)], .agg [.lit (.int .u8 0), .lit (.int .u8 0)], .agg [.lit (.int .u8 0), .lit (.int .u8 0)]]
def laid_transputer_expr_forms {H : Type} : DataW H := .agg [.agg [.lit (.int .i32 0), .lit (.int .i32 0), .lit (.int .u8 0), .lit (.int .u8 0), .lit (.int .u8 0), .lit (.int .u8 0), .lit (.bool false), .lit (.int .i64 0)], .agg [.lit (.int .i32 (-2147483648)), .lit (.int .i32 2147483647), .lit (.int .u8 0), .lit (.int .u8 0), .lit (.int .u8 0), .lit (.int .u8 0), .lit (.bool false), .lit (.int .i64 0)], .agg [.lit (.int .i32 0), .lit (.int .i32 255), .lit (.int .u8 0), .lit (.int .u8 0), .lit (.int .u8 0), .lit (.int .u8 0), .lit (.bool false), .lit (.int .i64 0)], .agg [.lit (.int .i32 0), .lit (.int .i32 1), .lit (.int .u8 0), .lit (.int .u8 0), .lit (.int .u8 0), .lit (.int .u8 0), .lit (.bool false), .lit (.int .i64 0)], .agg [.lit (.int .i32 0), .lit (.int .i32 0), .lit (.int .u8 0), .lit (.int .u8 0), .lit (.int .u8 0), .lit (.int .u8 0), .lit (.bool true), .lit (.int .i64 0)], .agg [.lit (.int .i32 0), .lit (.int .i32 0), .lit (.int .u8 0), .lit (.int .u8 0), .lit (.int .u8 0), .lit (.int .u8 0), .lit (.bool true), .lit (.int .i64 1)], .agg [.lit (.int .i32 0), .lit (.int .i32 0), .lit (.int .u8 23), .lit (.int .u8 26), .lit (.int .u8 0), .lit (.int .u8 0), .lit (.bool false), .lit (.int .i64 1)], .agg [.lit (.int .i32 0), .lit (.int .i32 0), .lit (.int .u8 1), .lit (.int .u8 22), .lit (.int .u8 0), .lit (.int .u8 0), .lit (.bool false), .lit (.int .i64 2)], .agg [.lit (.int .i32 0), .lit (.int .i32 0), .lit (.int .u8 0), .lit (.int .u8 0), .lit (.int .u8 1), .lit (.int .u8 3), .lit (.bool false), .lit (.int .i64 1)], .agg [.lit (.int .i32 0), .lit (.int .i32 0), .lit (.int .u8 0), .lit (.int .u8 0), .lit (.int .u8 0), .lit (.int .u8 0), .lit (.bool true), .lit (.int .i64 0)]]
def laid_transputer_expr_operatorWords {H : Type} : DataW H := .agg [.lit (.string []), .lit (.string [43]), .lit (.string [45]), .lit (.string [42]), .lit (.string [47]), .lit (.string [92]), .lit (.string [80, 76, 85, 83]), .lit (.string [77, 73, 78, 85, 83]), .lit (.string [84, 73, 77, 69, 83]), .lit (.string [47, 92]), .lit (.string [92, 47]), .lit (.string [62, 60]), .lit (.string [60, 60]), .lit (.string [62, 62]), .lit (.string [61]), .lit (.string [60, 62]), .lit (.string [60]), .lit (.string [62]), .lit (.string [60, 61]), .lit (.string [62, 61]), .lit (.string [65, 78, 68]), .lit (.string [79, 82]), .lit (.string [65, 70, 84, 69, 82]), .lit (.string [45]), .lit (.string [77, 73, 78, 85, 83]), .lit (.string [126]), .lit (.string [78, 79, 84])]
def laid_transputer_expr_typeWords {H : Type} : DataW H := .agg [.lit (.string []), .lit (.string [73, 78, 84]), .lit (.string [66, 89, 84, 69]), .lit (.string [66, 79, 79, 76])]
def laid_transputer_expr_truthWords {H : Type} : DataW H := .agg [.lit (.string [70, 65, 76, 83, 69]), .lit (.string [84, 82, 85, 69])]
/-- One of Go's own tables, pinned by name: the form's constant. -/
def laid_unicode_utf8_first : DataW Unit := Go.Pinned.utf8First

/-- 'transputerlaw10.ExprTrees': WHATEVER THE INPUT: true; the input reads as it did. -/
def exprTreesSpec : ChangeSpec := { name := "exprTrees", fn := fun _ => fun
  | [d1, d2, d3] => { results := [.lit (.bool true)], args := [d1, d2, d3] }
  | _ => none }
def exprTreesRow : OpenClaim := { program := "ytplcmcealeeppaagreatdoor", sum := "07ff26e48f933a9b05cb37dac581c2b087d525a7064034c3e65c4ea53fc3c6aa", func := "transputer/transputerlaw10.ExprTrees", spec := "exprTrees", inPlace := ["internal/bytealg.IndexByteString", "internal/bytealg.IndexString", "internal/abi.NoEscape", "internal/bytealg.MakeNoZero"], unfollowed := true, recurses := true, named := ["transputer/expr.operatorWords", "transputer/expr.forms", "transputer/expr.truthWords", "transputer/expr.typeWords", "internal/bytealg.MaxLen", "internal/strconv.uint64pow10", "math/bits.deBruijn32tab", "math/bits.deBruijn64tab", "unicode/utf8.first", "unicode/utf8.acceptRanges"], loops := true, apart := false, laid := [("math/bits.deBruijn32tab", laid_math_bits_deBruijn32tab), ("math/bits.deBruijn64tab", laid_math_bits_deBruijn64tab), ("internal/strconv.uint64pow10", laid_internal_strconv_uint64pow10), ("unicode/utf8.acceptRanges", laid_unicode_utf8_acceptRanges), ("transputer/expr.forms", laid_transputer_expr_forms), ("transputer/expr.operatorWords", laid_transputer_expr_operatorWords), ("transputer/expr.typeWords", laid_transputer_expr_typeWords), ("transputer/expr.truthWords", laid_transputer_expr_truthWords), ("unicode/utf8.first", laid_unicode_utf8_first)] }
def ExprTreesSaid : Prop := exprTreesRow.holds Tryz.pinned (OpenSpec.ofChange exprTreesSpec)

/-- ITS FALSE NEIGHBOUR: 'it returns false'. Refute it at one input. -/
def exprTreesWrong : ChangeSpec := { name := "exprTrees", fn := fun _ => fun
  | [d1, d2, d3] => { results := [.lit (.bool false)], args := [d1, d2, d3] }
  | _ => none }
def ExprTreesWrongFalsely : Prop := exprTreesRow.holds Tryz.pinned (OpenSpec.ofChange exprTreesWrong)

/-- 'transputerlaw10.ExprWrites': WHATEVER THE INPUT: true; the input reads as it did. -/
def exprWritesSpec : ChangeSpec := { name := "exprWrites", fn := fun _ => fun
  | [d] => { results := [.lit (.bool true)], args := [d] }
  | _ => none }
def exprWritesRow : OpenClaim := { program := "ytplcmcealeeppaagreatdoor", sum := "07ff26e48f933a9b05cb37dac581c2b087d525a7064034c3e65c4ea53fc3c6aa", func := "transputer/transputerlaw10.ExprWrites", spec := "exprWrites", inPlace := ["internal/bytealg.IndexByteString", "internal/bytealg.IndexString", "internal/abi.NoEscape", "internal/bytealg.MakeNoZero"], unfollowed := true, recurses := true, named := ["transputer/expr.forms", "transputer/expr.truthWords", "transputer/expr.operatorWords", "transputer/expr.typeWords", "internal/bytealg.MaxLen", "internal/strconv.uint64pow10", "math/bits.deBruijn32tab", "math/bits.deBruijn64tab", "unicode/utf8.first", "unicode/utf8.acceptRanges"], loops := true, apart := false, laid := [("math/bits.deBruijn32tab", laid_math_bits_deBruijn32tab), ("math/bits.deBruijn64tab", laid_math_bits_deBruijn64tab), ("internal/strconv.uint64pow10", laid_internal_strconv_uint64pow10), ("unicode/utf8.acceptRanges", laid_unicode_utf8_acceptRanges), ("transputer/expr.forms", laid_transputer_expr_forms), ("transputer/expr.operatorWords", laid_transputer_expr_operatorWords), ("transputer/expr.typeWords", laid_transputer_expr_typeWords), ("transputer/expr.truthWords", laid_transputer_expr_truthWords), ("unicode/utf8.first", laid_unicode_utf8_first)] }
def ExprWritesSaid : Prop := exprWritesRow.holds Tryz.pinned (OpenSpec.ofChange exprWritesSpec)

/-- ITS FALSE NEIGHBOUR: 'it returns false'. Refute it at one input. -/
def exprWritesWrong : ChangeSpec := { name := "exprWrites", fn := fun _ => fun
  | [d] => { results := [.lit (.bool false)], args := [d] }
  | _ => none }
def ExprWritesWrongFalsely : Prop := exprWritesRow.holds Tryz.pinned (OpenSpec.ofChange exprWritesWrong)

/-- 'transputerlaw10.ExprBack': WHATEVER THE INPUT: true; the input reads as it did. -/
def exprBackSpec : ChangeSpec := { name := "exprBack", fn := fun _ => fun
  | [d1, d2] => { results := [.lit (.bool true)], args := [d1, d2] }
  | _ => none }
def exprBackRow : OpenClaim := { program := "ytplcmcealeeppaagreatdoor", sum := "07ff26e48f933a9b05cb37dac581c2b087d525a7064034c3e65c4ea53fc3c6aa", func := "transputer/transputerlaw10.ExprBack", spec := "exprBack", inPlace := ["internal/bytealg.IndexByteString", "internal/bytealg.IndexString", "internal/abi.NoEscape", "internal/bytealg.MakeNoZero"], unfollowed := true, recurses := true, named := ["transputer/expr.forms", "transputer/expr.truthWords", "transputer/expr.operatorWords", "transputer/expr.typeWords", "internal/bytealg.MaxLen", "internal/strconv.uint64pow10", "math/bits.deBruijn32tab", "math/bits.deBruijn64tab", "unicode/utf8.first", "unicode/utf8.acceptRanges"], loops := true, apart := false, laid := [("math/bits.deBruijn32tab", laid_math_bits_deBruijn32tab), ("math/bits.deBruijn64tab", laid_math_bits_deBruijn64tab), ("internal/strconv.uint64pow10", laid_internal_strconv_uint64pow10), ("unicode/utf8.acceptRanges", laid_unicode_utf8_acceptRanges), ("transputer/expr.forms", laid_transputer_expr_forms), ("transputer/expr.operatorWords", laid_transputer_expr_operatorWords), ("transputer/expr.typeWords", laid_transputer_expr_typeWords), ("transputer/expr.truthWords", laid_transputer_expr_truthWords), ("unicode/utf8.first", laid_unicode_utf8_first)] }
def ExprBackSaid : Prop := exprBackRow.holds Tryz.pinned (OpenSpec.ofChange exprBackSpec)

/-- ITS FALSE NEIGHBOUR: 'it returns false'. Refute it at one input. -/
def exprBackWrong : ChangeSpec := { name := "exprBack", fn := fun _ => fun
  | [d1, d2] => { results := [.lit (.bool false)], args := [d1, d2] }
  | _ => none }
def ExprBackWrongFalsely : Prop := exprBackRow.holds Tryz.pinned (OpenSpec.ofChange exprBackWrong)

/-- 'transputerlaw10.ExprText': WHATEVER THE INPUT: true; the input reads as it did. -/
def exprTextSpec : ChangeSpec := { name := "exprText", fn := fun _ => fun
  | [d] => { results := [.lit (.bool true)], args := [d] }
  | _ => none }
def exprTextRow : OpenClaim := { program := "ytplcmcealeeppaagreatdoor", sum := "07ff26e48f933a9b05cb37dac581c2b087d525a7064034c3e65c4ea53fc3c6aa", func := "transputer/transputerlaw10.ExprText", spec := "exprText", inPlace := ["internal/bytealg.IndexByteString", "internal/bytealg.IndexString", "internal/abi.NoEscape", "internal/bytealg.MakeNoZero"], unfollowed := true, recurses := true, named := ["transputer/expr.forms", "transputer/expr.truthWords", "transputer/expr.operatorWords", "transputer/expr.typeWords", "internal/bytealg.MaxLen", "internal/strconv.uint64pow10", "math/bits.deBruijn32tab", "math/bits.deBruijn64tab", "unicode/utf8.first", "unicode/utf8.acceptRanges"], loops := true, apart := false, laid := [("math/bits.deBruijn32tab", laid_math_bits_deBruijn32tab), ("math/bits.deBruijn64tab", laid_math_bits_deBruijn64tab), ("internal/strconv.uint64pow10", laid_internal_strconv_uint64pow10), ("unicode/utf8.acceptRanges", laid_unicode_utf8_acceptRanges), ("transputer/expr.forms", laid_transputer_expr_forms), ("transputer/expr.operatorWords", laid_transputer_expr_operatorWords), ("transputer/expr.typeWords", laid_transputer_expr_typeWords), ("transputer/expr.truthWords", laid_transputer_expr_truthWords), ("unicode/utf8.first", laid_unicode_utf8_first)] }
def ExprTextSaid : Prop := exprTextRow.holds Tryz.pinned (OpenSpec.ofChange exprTextSpec)

/-- ITS FALSE NEIGHBOUR: 'it returns false'. Refute it at one input. -/
def exprTextWrong : ChangeSpec := { name := "exprText", fn := fun _ => fun
  | [d] => { results := [.lit (.bool false)], args := [d] }
  | _ => none }
def ExprTextWrongFalsely : Prop := exprTextRow.holds Tryz.pinned (OpenSpec.ofChange exprTextWrong)

/-- 'transputerlaw10.ExprAgain': WHATEVER THE INPUT: true; the input reads as it did. -/
def exprAgainSpec : ChangeSpec := { name := "exprAgain", fn := fun _ => fun
  | [d] => { results := [.lit (.bool true)], args := [d] }
  | _ => none }
def exprAgainRow : OpenClaim := { program := "ytplcmcealeeppaagreatdoor", sum := "07ff26e48f933a9b05cb37dac581c2b087d525a7064034c3e65c4ea53fc3c6aa", func := "transputer/transputerlaw10.ExprAgain", spec := "exprAgain", inPlace := ["internal/bytealg.IndexByteString", "internal/bytealg.IndexString", "internal/abi.NoEscape", "internal/bytealg.MakeNoZero"], unfollowed := true, recurses := true, named := ["transputer/expr.typeWords", "transputer/expr.truthWords", "transputer/expr.operatorWords", "transputer/expr.forms", "internal/bytealg.MaxLen", "internal/strconv.uint64pow10", "math/bits.deBruijn32tab", "math/bits.deBruijn64tab", "unicode/utf8.first", "unicode/utf8.acceptRanges"], apart := false, laid := [("math/bits.deBruijn32tab", laid_math_bits_deBruijn32tab), ("math/bits.deBruijn64tab", laid_math_bits_deBruijn64tab), ("internal/strconv.uint64pow10", laid_internal_strconv_uint64pow10), ("unicode/utf8.acceptRanges", laid_unicode_utf8_acceptRanges), ("transputer/expr.forms", laid_transputer_expr_forms), ("transputer/expr.operatorWords", laid_transputer_expr_operatorWords), ("transputer/expr.typeWords", laid_transputer_expr_typeWords), ("transputer/expr.truthWords", laid_transputer_expr_truthWords), ("unicode/utf8.first", laid_unicode_utf8_first)] }
def ExprAgainSaid : Prop := exprAgainRow.holds Tryz.pinned (OpenSpec.ofChange exprAgainSpec)

/-- ITS FALSE NEIGHBOUR: 'it returns false'. Refute it at one input. -/
def exprAgainWrong : ChangeSpec := { name := "exprAgain", fn := fun _ => fun
  | [d] => { results := [.lit (.bool false)], args := [d] }
  | _ => none }
def ExprAgainWrongFalsely : Prop := exprAgainRow.holds Tryz.pinned (OpenSpec.ofChange exprAgainWrong)

/-- 'transputerlaw10.ExprKnown': WHATEVER THE INPUT: true; the input reads as it did. -/
def exprKnownSpec : ChangeSpec := { name := "exprKnown", fn := fun _ => fun
  | [] => { results := [.lit (.bool true)], args := [] }
  | _ => none }
def exprKnownRow : OpenClaim := { program := "ytplcmcealeeppaagreatdoor", sum := "07ff26e48f933a9b05cb37dac581c2b087d525a7064034c3e65c4ea53fc3c6aa", func := "transputer/transputerlaw10.ExprKnown", spec := "exprKnown", inPlace := ["internal/bytealg.IndexByteString", "internal/bytealg.IndexString", "internal/abi.NoEscape", "internal/bytealg.MakeNoZero"], unfollowed := true, recurses := true, named := ["unicode/utf8.first", "unicode/utf8.acceptRanges", "internal/strconv.uint64pow10", "math/bits.deBruijn32tab", "math/bits.deBruijn64tab", "transputer/expr.typeWords", "transputer/expr.truthWords", "transputer/expr.operatorWords", "transputer/expr.forms", "internal/bytealg.MaxLen"], apart := false, laid := [("math/bits.deBruijn32tab", laid_math_bits_deBruijn32tab), ("math/bits.deBruijn64tab", laid_math_bits_deBruijn64tab), ("internal/strconv.uint64pow10", laid_internal_strconv_uint64pow10), ("unicode/utf8.acceptRanges", laid_unicode_utf8_acceptRanges), ("transputer/expr.forms", laid_transputer_expr_forms), ("transputer/expr.operatorWords", laid_transputer_expr_operatorWords), ("transputer/expr.typeWords", laid_transputer_expr_typeWords), ("transputer/expr.truthWords", laid_transputer_expr_truthWords), ("unicode/utf8.first", laid_unicode_utf8_first)] }
def ExprKnownSaid : Prop := exprKnownRow.holds Tryz.pinned (OpenSpec.ofChange exprKnownSpec)

/-- ITS FALSE NEIGHBOUR: 'it returns false'. Refute it at one input. -/
def exprKnownWrong : ChangeSpec := { name := "exprKnown", fn := fun _ => fun
  | [] => { results := [.lit (.bool false)], args := [] }
  | _ => none }
def ExprKnownWrongFalsely : Prop := exprKnownRow.holds Tryz.pinned (OpenSpec.ofChange exprKnownWrong)

/- THE SECOND FORM. 'bulk': how many values and letters a reading holds, each counted each time it is reached (what is shared counts as often as it is met; a slice's spare places count too). A statement '..UptoSaid' is the law's where the arguments, and the package variables that the reading takes, are together of bulk at most 1048576: NARROWER than '..Said'. Prove '..Said' where nothing that the law and all that it calls make is longer than what came in: it says more and counts as full. Else prove '..UptoSaid'. A law counts once. -/
mutual
def uptoBulk {H : Type} : DataW H → Nat
  | .lit (.string bytes) => bytes.length + 1
  | .lit _ => 1
  | .nil => 1
  | .ptr d => uptoBulk d + 1
  | .slice elems spare => uptoBulkAll elems + uptoBulkAll spare + 1
  | .agg parts => uptoBulkAll parts + 1
  | .iface _ d => uptoBulk d + 1
  | .map entries => uptoBulkEntries entries + 1
  | .held _ => 1
def uptoBulkAll {H : Type} : List (DataW H) → Nat
  | [] => 0
  | d :: r => uptoBulk d + uptoBulkAll r
def uptoBulkEntries {H : Type} : List (Lit × DataW H) → Nat
  | [] => 0
  | x :: r => uptoBulkEntry x + uptoBulkEntries r
def uptoBulkEntry {H : Type} : Lit × DataW H → Nat
  | (.string bytes, d) => bytes.length + uptoBulk d + 1
  | (_, d) => uptoBulk d + 1
 end
def uptoSmall : (H : Type) → List (DataW H) → Bool := fun _ ds => decide (uptoBulkAll ds ≤ 1048576)
def OpenSpec.upto (s : _root_.Go.ChangeSpec) : _root_.Go.OpenSpec := { _root_.Go.OpenSpec.ofChange s with cond := some uptoSmall }

/-- 'transputerlaw10.ExprTrees', WHERE WHAT IT READS IS OF BULK AT MOST 1048576: true; the input reads as it did. -/
def exprTreesUptoRow : OpenClaim := { program := "ytplcmcealeeppaagreatdoor", sum := "07ff26e48f933a9b05cb37dac581c2b087d525a7064034c3e65c4ea53fc3c6aa", func := "transputer/transputerlaw10.ExprTrees", spec := "exprTrees", inPlace := ["internal/bytealg.IndexByteString", "internal/bytealg.IndexString", "internal/abi.NoEscape", "internal/bytealg.MakeNoZero"], unfollowed := true, recurses := true, named := ["transputer/expr.operatorWords", "transputer/expr.forms", "transputer/expr.truthWords", "transputer/expr.typeWords", "internal/bytealg.MaxLen", "internal/strconv.uint64pow10", "math/bits.deBruijn32tab", "math/bits.deBruijn64tab", "unicode/utf8.first", "unicode/utf8.acceptRanges"], loops := true, apart := false, laid := [("math/bits.deBruijn32tab", laid_math_bits_deBruijn32tab), ("math/bits.deBruijn64tab", laid_math_bits_deBruijn64tab), ("internal/strconv.uint64pow10", laid_internal_strconv_uint64pow10), ("unicode/utf8.acceptRanges", laid_unicode_utf8_acceptRanges), ("transputer/expr.forms", laid_transputer_expr_forms), ("transputer/expr.operatorWords", laid_transputer_expr_operatorWords), ("transputer/expr.typeWords", laid_transputer_expr_typeWords), ("transputer/expr.truthWords", laid_transputer_expr_truthWords), ("unicode/utf8.first", laid_unicode_utf8_first)], narrowed := true }
def ExprTreesUptoSaid : Prop := exprTreesUptoRow.holds Tryz.pinned (OpenSpec.upto exprTreesSpec)

/-- 'transputerlaw10.ExprWrites', WHERE WHAT IT READS IS OF BULK AT MOST 1048576: true; the input reads as it did. -/
def exprWritesUptoRow : OpenClaim := { program := "ytplcmcealeeppaagreatdoor", sum := "07ff26e48f933a9b05cb37dac581c2b087d525a7064034c3e65c4ea53fc3c6aa", func := "transputer/transputerlaw10.ExprWrites", spec := "exprWrites", inPlace := ["internal/bytealg.IndexByteString", "internal/bytealg.IndexString", "internal/abi.NoEscape", "internal/bytealg.MakeNoZero"], unfollowed := true, recurses := true, named := ["transputer/expr.forms", "transputer/expr.truthWords", "transputer/expr.operatorWords", "transputer/expr.typeWords", "internal/bytealg.MaxLen", "internal/strconv.uint64pow10", "math/bits.deBruijn32tab", "math/bits.deBruijn64tab", "unicode/utf8.first", "unicode/utf8.acceptRanges"], loops := true, apart := false, laid := [("math/bits.deBruijn32tab", laid_math_bits_deBruijn32tab), ("math/bits.deBruijn64tab", laid_math_bits_deBruijn64tab), ("internal/strconv.uint64pow10", laid_internal_strconv_uint64pow10), ("unicode/utf8.acceptRanges", laid_unicode_utf8_acceptRanges), ("transputer/expr.forms", laid_transputer_expr_forms), ("transputer/expr.operatorWords", laid_transputer_expr_operatorWords), ("transputer/expr.typeWords", laid_transputer_expr_typeWords), ("transputer/expr.truthWords", laid_transputer_expr_truthWords), ("unicode/utf8.first", laid_unicode_utf8_first)], narrowed := true }
def ExprWritesUptoSaid : Prop := exprWritesUptoRow.holds Tryz.pinned (OpenSpec.upto exprWritesSpec)

/-- 'transputerlaw10.ExprBack', WHERE WHAT IT READS IS OF BULK AT MOST 1048576: true; the input reads as it did. -/
def exprBackUptoRow : OpenClaim := { program := "ytplcmcealeeppaagreatdoor", sum := "07ff26e48f933a9b05cb37dac581c2b087d525a7064034c3e65c4ea53fc3c6aa", func := "transputer/transputerlaw10.ExprBack", spec := "exprBack", inPlace := ["internal/bytealg.IndexByteString", "internal/bytealg.IndexString", "internal/abi.NoEscape", "internal/bytealg.MakeNoZero"], unfollowed := true, recurses := true, named := ["transputer/expr.forms", "transputer/expr.truthWords", "transputer/expr.operatorWords", "transputer/expr.typeWords", "internal/bytealg.MaxLen", "internal/strconv.uint64pow10", "math/bits.deBruijn32tab", "math/bits.deBruijn64tab", "unicode/utf8.first", "unicode/utf8.acceptRanges"], loops := true, apart := false, laid := [("math/bits.deBruijn32tab", laid_math_bits_deBruijn32tab), ("math/bits.deBruijn64tab", laid_math_bits_deBruijn64tab), ("internal/strconv.uint64pow10", laid_internal_strconv_uint64pow10), ("unicode/utf8.acceptRanges", laid_unicode_utf8_acceptRanges), ("transputer/expr.forms", laid_transputer_expr_forms), ("transputer/expr.operatorWords", laid_transputer_expr_operatorWords), ("transputer/expr.typeWords", laid_transputer_expr_typeWords), ("transputer/expr.truthWords", laid_transputer_expr_truthWords), ("unicode/utf8.first", laid_unicode_utf8_first)], narrowed := true }
def ExprBackUptoSaid : Prop := exprBackUptoRow.holds Tryz.pinned (OpenSpec.upto exprBackSpec)

/-- 'transputerlaw10.ExprText', WHERE WHAT IT READS IS OF BULK AT MOST 1048576: true; the input reads as it did. -/
def exprTextUptoRow : OpenClaim := { program := "ytplcmcealeeppaagreatdoor", sum := "07ff26e48f933a9b05cb37dac581c2b087d525a7064034c3e65c4ea53fc3c6aa", func := "transputer/transputerlaw10.ExprText", spec := "exprText", inPlace := ["internal/bytealg.IndexByteString", "internal/bytealg.IndexString", "internal/abi.NoEscape", "internal/bytealg.MakeNoZero"], unfollowed := true, recurses := true, named := ["transputer/expr.forms", "transputer/expr.truthWords", "transputer/expr.operatorWords", "transputer/expr.typeWords", "internal/bytealg.MaxLen", "internal/strconv.uint64pow10", "math/bits.deBruijn32tab", "math/bits.deBruijn64tab", "unicode/utf8.first", "unicode/utf8.acceptRanges"], loops := true, apart := false, laid := [("math/bits.deBruijn32tab", laid_math_bits_deBruijn32tab), ("math/bits.deBruijn64tab", laid_math_bits_deBruijn64tab), ("internal/strconv.uint64pow10", laid_internal_strconv_uint64pow10), ("unicode/utf8.acceptRanges", laid_unicode_utf8_acceptRanges), ("transputer/expr.forms", laid_transputer_expr_forms), ("transputer/expr.operatorWords", laid_transputer_expr_operatorWords), ("transputer/expr.typeWords", laid_transputer_expr_typeWords), ("transputer/expr.truthWords", laid_transputer_expr_truthWords), ("unicode/utf8.first", laid_unicode_utf8_first)], narrowed := true }
def ExprTextUptoSaid : Prop := exprTextUptoRow.holds Tryz.pinned (OpenSpec.upto exprTextSpec)

/-- 'transputerlaw10.ExprAgain', WHERE WHAT IT READS IS OF BULK AT MOST 1048576: true; the input reads as it did. -/
def exprAgainUptoRow : OpenClaim := { program := "ytplcmcealeeppaagreatdoor", sum := "07ff26e48f933a9b05cb37dac581c2b087d525a7064034c3e65c4ea53fc3c6aa", func := "transputer/transputerlaw10.ExprAgain", spec := "exprAgain", inPlace := ["internal/bytealg.IndexByteString", "internal/bytealg.IndexString", "internal/abi.NoEscape", "internal/bytealg.MakeNoZero"], unfollowed := true, recurses := true, named := ["transputer/expr.typeWords", "transputer/expr.truthWords", "transputer/expr.operatorWords", "transputer/expr.forms", "internal/bytealg.MaxLen", "internal/strconv.uint64pow10", "math/bits.deBruijn32tab", "math/bits.deBruijn64tab", "unicode/utf8.first", "unicode/utf8.acceptRanges"], apart := false, laid := [("math/bits.deBruijn32tab", laid_math_bits_deBruijn32tab), ("math/bits.deBruijn64tab", laid_math_bits_deBruijn64tab), ("internal/strconv.uint64pow10", laid_internal_strconv_uint64pow10), ("unicode/utf8.acceptRanges", laid_unicode_utf8_acceptRanges), ("transputer/expr.forms", laid_transputer_expr_forms), ("transputer/expr.operatorWords", laid_transputer_expr_operatorWords), ("transputer/expr.typeWords", laid_transputer_expr_typeWords), ("transputer/expr.truthWords", laid_transputer_expr_truthWords), ("unicode/utf8.first", laid_unicode_utf8_first)], narrowed := true }
def ExprAgainUptoSaid : Prop := exprAgainUptoRow.holds Tryz.pinned (OpenSpec.upto exprAgainSpec)

/-- 'transputerlaw10.ExprKnown', WHERE WHAT IT READS IS OF BULK AT MOST 1048576: true; the input reads as it did. -/
def exprKnownUptoRow : OpenClaim := { program := "ytplcmcealeeppaagreatdoor", sum := "07ff26e48f933a9b05cb37dac581c2b087d525a7064034c3e65c4ea53fc3c6aa", func := "transputer/transputerlaw10.ExprKnown", spec := "exprKnown", inPlace := ["internal/bytealg.IndexByteString", "internal/bytealg.IndexString", "internal/abi.NoEscape", "internal/bytealg.MakeNoZero"], unfollowed := true, recurses := true, named := ["unicode/utf8.first", "unicode/utf8.acceptRanges", "internal/strconv.uint64pow10", "math/bits.deBruijn32tab", "math/bits.deBruijn64tab", "transputer/expr.typeWords", "transputer/expr.truthWords", "transputer/expr.operatorWords", "transputer/expr.forms", "internal/bytealg.MaxLen"], apart := false, laid := [("math/bits.deBruijn32tab", laid_math_bits_deBruijn32tab), ("math/bits.deBruijn64tab", laid_math_bits_deBruijn64tab), ("internal/strconv.uint64pow10", laid_internal_strconv_uint64pow10), ("unicode/utf8.acceptRanges", laid_unicode_utf8_acceptRanges), ("transputer/expr.forms", laid_transputer_expr_forms), ("transputer/expr.operatorWords", laid_transputer_expr_operatorWords), ("transputer/expr.typeWords", laid_transputer_expr_typeWords), ("transputer/expr.truthWords", laid_transputer_expr_truthWords), ("unicode/utf8.first", laid_unicode_utf8_first)], narrowed := true }
def ExprKnownUptoSaid : Prop := exprKnownUptoRow.holds Tryz.pinned (OpenSpec.upto exprKnownSpec)

end Rows
end Go.Proofs.YtplcmcealeeppaaGreatDoor
