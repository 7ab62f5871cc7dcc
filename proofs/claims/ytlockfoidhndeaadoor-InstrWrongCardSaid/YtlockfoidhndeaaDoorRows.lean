/-
  NARROWER THAN 'FOR EVERY INPUT', by the rows' own cells (each row's printed sentence says how): InstrRows: laid · InstrNamed: laid · InstrRead: laid · InstrBack: laid · InstrNames: laid · InstrCount: laid · InstrHex: laid · InstrWrong: laid.
  DERIVED. THE GIVEN ROWS OF THIS SEAT. 8 by the template 'for every input the law returns true; each argument reads behind the call as it read before'; 0 by the template 'total and deterministic' (their statements: YtlockfoidhndeaaDoorTotals.lean).
  GIVEN WITH THE SEED: the statements are not yours to turn. If you find one false, say at which input.
  Laid BY PROGRAM, IN A SANDBOX (cutbox-rows.mjs): the forced cells as the released guide's own fill.sh prints them over the translation 8bbc1c248c82b8bc… (all of the seat's roots in one cut). By AI agents, Wed Nov 11 2026. No macro, syntax, notation, axiom, sorry.
-/
import Derived.Test.YtlockfoidhndeaaDoorChecked
import GoSem.PinnedTables
import GoSem.Claim
import GoSem.ClaimJoined
import GoSem.ClaimMapViews
import Derived.JoinedTies
import Derived.KernelRfl
namespace Go.Proofs.YtlockfoidhndeaaDoor
/- THE CELL 'sum', in the pinned program and in every row, IS THE sha256 OF THE DUMP (.gsa) THAT YtlockfoidhndeaaDoorProg.lean LOADS. Nothing in Lean hashes anything: it is a label: what it is worth is what the hold of that sum in a sandbox is worth. -/
noncomputable def Tryd.pinned : Pinned := { name := "ytlockfoidhndeaadoor", sum := "8bbc1c248c82b8bc46e92b121361fc9ce8452d2e0405d792501920ce71a8fcbb", checked := Tryd.checked }
namespace Rows
def none {H : Type} : Left H := { results := [], args := [] }

/- WHAT THE LISTED PACKAGE-LEVEL VARIABLES READ AS WHEN THE CALL BEGINS. Each datum BY PROGRAM (the guide's laid-datum.mjs) off the statement by which the dump's own 'gosem.cut.vars' lays the variable. In a bare row this is a premise. The card (YtlockfoidhndeaaDoorCards.lean) ties it to the program's text. -/
def laid_math_bits_deBruijn32tab {H : Type} : DataW H := .agg [.lit (.int .u8 0), .lit (.int .u8 1), .lit (.int .u8 28), .lit (.int .u8 2), .lit (.int .u8 29), .lit (.int .u8 14), .lit (.int .u8 24), .lit (.int .u8 3), .lit (.int .u8 30), .lit (.int .u8 22), .lit (.int .u8 20), .lit (.int .u8 15), .lit (.int .u8 25), .lit (.int .u8 17), .lit (.int .u8 4), .lit (.int .u8 8), .lit (.int .u8 31), .lit (.int .u8 27), .lit (.int .u8 13), .lit (.int .u8 23), .lit (.int .u8 21), .lit (.int .u8 19), .lit (.int .u8 16), .lit (.int .u8 7), .lit (.int .u8 26), .lit (.int .u8 12), .lit (.int .u8 18), .lit (.int .u8 6), .lit (.int .u8 11), .lit (.int .u8 5), .lit (.int .u8 10), .lit (.int .u8 9)]
def laid_math_bits_deBruijn64tab {H : Type} : DataW H := .agg [.lit (.int .u8 0), .lit (.int .u8 1), .lit (.int .u8 56), .lit (.int .u8 2), .lit (.int .u8 57), .lit (.int .u8 49), .lit (.int .u8 28), .lit (.int .u8 3), .lit (.int .u8 61), .lit (.int .u8 58), .lit (.int .u8 42), .lit (.int .u8 50), .lit (.int .u8 38), .lit (.int .u8 29), .lit (.int .u8 17), .lit (.int .u8 4), .lit (.int .u8 62), .lit (.int .u8 47), .lit (.int .u8 59), .lit (.int .u8 36), .lit (.int .u8 45), .lit (.int .u8 43), .lit (.int .u8 51), .lit (.int .u8 22), .lit (.int .u8 53), .lit (.int .u8 39), .lit (.int .u8 33), .lit (.int .u8 30), .lit (.int .u8 24), .lit (.int .u8 18), .lit (.int .u8 12), .lit (.int .u8 5), .lit (.int .u8 63), .lit (.int .u8 55), .lit (.int .u8 48), .lit (.int .u8 27), .lit (.int .u8 60), .lit (.int .u8 41), .lit (.int .u8 37), .lit (.int .u8 16), .lit (.int .u8 46), .lit (.int .u8 35), .lit (.int .u8 44), .lit (.int .u8 21), .lit (.int .u8 52), .lit (.int .u8 32), .lit (.int .u8 23), .lit (.int .u8 11), .lit (.int .u8 54), .lit (.int .u8 26), .lit (.int .u8 40), .lit (.int .u8 15), .lit (.int .u8 34), .lit (.int .u8 20), .lit (.int .u8 31), .lit (.int .u8 10), .lit (.int .u8 25), .lit (.int .u8 14), .lit (.int .u8 19), .lit (.int .u8 9), .lit (.int .u8 13), .lit (.int .u8 8), .lit (.int .u8 7), .lit (.int .u8 6)]
def laid_internal_strconv_uint64pow10 {H : Type} : DataW H := .agg [.lit (.int .u64 1), .lit (.int .u64 10), .lit (.int .u64 100), .lit (.int .u64 1000), .lit (.int .u64 10000), .lit (.int .u64 100000), .lit (.int .u64 1000000), .lit (.int .u64 10000000), .lit (.int .u64 100000000), .lit (.int .u64 1000000000), .lit (.int .u64 10000000000), .lit (.int .u64 100000000000), .lit (.int .u64 1000000000000), .lit (.int .u64 10000000000000), .lit (.int .u64 100000000000000), .lit (.int .u64 1000000000000000), .lit (.int .u64 10000000000000000), .lit (.int .u64 100000000000000000), .lit (.int .u64 1000000000000000000), .lit (.int .u64 10000000000000000000)]
def laid_transputer_instr_functions {H : Type} : DataW H := .agg [.agg [.lit (.string [106]), .lit (.int .i64 0), .lit (.int .i64 0)], .agg [.lit (.string [108, 100, 108, 112]), .lit (.int .i64 0), .lit (.int .i64 1)], .agg [.lit (.string []), .lit (.int .i64 0), .lit (.int .i64 0)], .agg [.lit (.string [108, 100, 110, 108]), .lit (.int .i64 1), .lit (.int .i64 1)], .agg [.lit (.string [108, 100, 99]), .lit (.int .i64 0), .lit (.int .i64 1)], .agg [.lit (.string [108, 100, 110, 108, 112]), .lit (.int .i64 1), .lit (.int .i64 1)], .agg [.lit (.string []), .lit (.int .i64 0), .lit (.int .i64 0)], .agg [.lit (.string [108, 100, 108]), .lit (.int .i64 0), .lit (.int .i64 1)], .agg [.lit (.string [97, 100, 99]), .lit (.int .i64 1), .lit (.int .i64 1)], .agg [.lit (.string [99, 97, 108, 108]), .lit (.int .i64 3), .lit (.int .i64 1)], .agg [.lit (.string [99, 106]), .lit (.int .i64 1), .lit (.int .i64 0)], .agg [.lit (.string [97, 106, 119]), .lit (.int .i64 0), .lit (.int .i64 0)], .agg [.lit (.string [101, 113, 99]), .lit (.int .i64 1), .lit (.int .i64 1)], .agg [.lit (.string [115, 116, 108]), .lit (.int .i64 1), .lit (.int .i64 0)], .agg [.lit (.string [115, 116, 110, 108]), .lit (.int .i64 2), .lit (.int .i64 0)]]
def laid_transputer_instr_operationNames {H : Type} : DataW H := .agg [.lit (.string [114, 101, 118]), .lit (.string [108, 98]), .lit (.string [98, 115, 117, 98]), .lit (.string [101, 110, 100, 112]), .lit (.string [100, 105, 102, 102]), .lit (.string [97, 100, 100]), .lit (.string [103, 99, 97, 108, 108]), .lit (.string [105, 110]), .lit (.string [112, 114, 111, 100]), .lit (.string [103, 116]), .lit (.string [119, 115, 117, 98]), .lit (.string [111, 117, 116]), .lit (.string [115, 117, 98]), .lit (.string [115, 116, 97, 114, 116, 112]), .lit (.string [111, 117, 116, 98, 121, 116, 101]), .lit (.string [111, 117, 116, 119, 111, 114, 100]), .lit (.string [115, 101, 116, 101, 114, 114]), .lit (.string []), .lit (.string [114, 101, 115, 101, 116, 99, 104]), .lit (.string [99, 115, 117, 98, 48]), .lit (.string []), .lit (.string [115, 116, 111, 112, 112]), .lit (.string [108, 97, 100, 100]), .lit (.string []), .lit (.string []), .lit (.string [110, 111, 114, 109]), .lit (.string [108, 100, 105, 118]), .lit (.string [108, 100, 112, 105]), .lit (.string []), .lit (.string [120, 100, 98, 108, 101]), .lit (.string [108, 100, 112, 114, 105]), .lit (.string [114, 101, 109]), .lit (.string [114, 101, 116]), .lit (.string [108, 101, 110, 100]), .lit (.string [108, 100, 116, 105, 109, 101, 114]), .lit (.string []), .lit (.string []), .lit (.string []), .lit (.string []), .lit (.string []), .lit (.string []), .lit (.string [116, 101, 115, 116, 101, 114, 114]), .lit (.string []), .lit (.string [116, 105, 110]), .lit (.string [100, 105, 118]), .lit (.string []), .lit (.string [100, 105, 115, 116]), .lit (.string [100, 105, 115, 99]), .lit (.string [100, 105, 115, 115]), .lit (.string [108, 109, 117, 108]), .lit (.string [110, 111, 116]), .lit (.string [120, 111, 114]), .lit (.string [98, 99, 110, 116]), .lit (.string [108, 115, 104, 114]), .lit (.string [108, 115, 104, 108]), .lit (.string [108, 115, 117, 109]), .lit (.string [108, 115, 117, 98]), .lit (.string [114, 117, 110, 112]), .lit (.string [120, 119, 111, 114, 100]), .lit (.string [115, 98]), .lit (.string [103, 97, 106, 119]), .lit (.string []), .lit (.string []), .lit (.string [119, 99, 110, 116]), .lit (.string [115, 104, 114]), .lit (.string [115, 104, 108]), .lit (.string [109, 105, 110, 116]), .lit (.string [97, 108, 116]), .lit (.string [97, 108, 116, 119, 116]), .lit (.string [97, 108, 116, 101, 110, 100]), .lit (.string [97, 110, 100]), .lit (.string [101, 110, 98, 116]), .lit (.string [101, 110, 98, 99]), .lit (.string [101, 110, 98, 115]), .lit (.string [109, 111, 118, 101]), .lit (.string [111, 114]), .lit (.string [99, 115, 110, 103, 108]), .lit (.string [99, 99, 110, 116, 49]), .lit (.string [116, 97, 108, 116]), .lit (.string [108, 100, 105, 102, 102]), .lit (.string []), .lit (.string [116, 97, 108, 116, 119, 116]), .lit (.string [115, 117, 109]), .lit (.string [109, 117, 108]), .lit (.string [115, 116, 116, 105, 109, 101, 114]), .lit (.string [115, 116, 111, 112, 101, 114, 114]), .lit (.string [99, 119, 111, 114, 100]), .lit (.string [99, 108, 114, 104, 97, 108, 116, 101, 114, 114]), .lit (.string [115, 101, 116, 104, 97, 108, 116, 101, 114, 114]), .lit (.string [116, 101, 115, 116, 104, 97, 108, 116, 101, 114, 114])]
def laid_unicode_utf8_acceptRanges {H : Type} : DataW H := .agg [.agg [.lit (.int .u8 128), .lit (.int .u8 191)], .agg [.lit (.int .u8 160), .lit (.int .u8 191)], .agg [.lit (.int .u8 128), .lit (.int .u8 159)], .agg [.lit (.int .u8 144), .lit (.int .u8 191)], .agg [.lit (.int .u8 128), .lit (.int .u8 143)], .agg [.lit (.int .u8 0), .lit (.int .u8 0)], .agg [.lit (.int .u8 0), .lit (.int .u8 0)], .agg [.lit (.int .u8 0), .lit (.int .u8 0)], .agg [.lit (.int .u8 0), .lit (.int .u8 0)], .agg [.lit (.int .u8 0), .lit (.int .u8 0)], .agg [.lit (.int .u8 0), .lit (.int .u8 0)], .agg [.lit (.int .u8 0), .lit (.int .u8 0)], .agg [.lit (.int .u8 0), .lit (.int .u8 0)], .agg [.lit (.int .u8 0), .lit (.int .u8 0)], .agg [.lit (.int .u8 0), .lit (.int .u8 0)], .agg [.lit (.int .u8 0), .lit (.int .u8 0)]]
/-- One of Go's own tables, pinned by name: the form's constant. -/
def laid_unicode_CaseRanges : DataW Unit := Go.Pinned.caseRanges
/-- One of Go's own tables, pinned by name: the form's constant. -/
def laid_unicode_utf8_first : DataW Unit := Go.Pinned.utf8First

/-- 'transputerlaw05.InstrRows': WHATEVER THE INPUT: true; the input reads as it did. -/
def instrRowsSpec : ChangeSpec := { name := "instrRows", fn := fun _ => fun
  | [d1, d2] => { results := [.lit (.bool true)], args := [d1, d2] }
  | _ => none }
def instrRowsRow : OpenClaim := { program := "ytlockfoidhndeaadoor", sum := "8bbc1c248c82b8bc46e92b121361fc9ce8452d2e0405d792501920ce71a8fcbb", func := "transputer/transputerlaw05.InstrRows", spec := "instrRows", inPlace := ["internal/bytealg.IndexByteString", "internal/bytealg.IndexString"], unfollowed := true, recurses := true, named := ["transputer/instr.functions", "transputer/instr.operationNames", "internal/strconv.uint64pow10", "math/bits.deBruijn32tab", "math/bits.deBruijn64tab", "internal/bytealg.MaxLen"], apart := false, laid := [("math/bits.deBruijn32tab", laid_math_bits_deBruijn32tab), ("math/bits.deBruijn64tab", laid_math_bits_deBruijn64tab), ("internal/strconv.uint64pow10", laid_internal_strconv_uint64pow10), ("transputer/instr.functions", laid_transputer_instr_functions), ("transputer/instr.operationNames", laid_transputer_instr_operationNames)] }
def InstrRowsSaid : Prop := instrRowsRow.holds Tryd.pinned (OpenSpec.ofChange instrRowsSpec)

/-- ITS FALSE NEIGHBOUR: 'it returns false'. Refute it at one input. -/
def instrRowsWrong : ChangeSpec := { name := "instrRows", fn := fun _ => fun
  | [d1, d2] => { results := [.lit (.bool false)], args := [d1, d2] }
  | _ => none }
def InstrRowsWrongFalsely : Prop := instrRowsRow.holds Tryd.pinned (OpenSpec.ofChange instrRowsWrong)

/-- 'transputerlaw05.InstrNamed': WHATEVER THE INPUT: true; the input reads as it did. -/
def instrNamedSpec : ChangeSpec := { name := "instrNamed", fn := fun _ => fun
  | [d] => { results := [.lit (.bool true)], args := [d] }
  | _ => none }
def instrNamedRow : OpenClaim := { program := "ytlockfoidhndeaadoor", sum := "8bbc1c248c82b8bc46e92b121361fc9ce8452d2e0405d792501920ce71a8fcbb", func := "transputer/transputerlaw05.InstrNamed", spec := "instrNamed", inPlace := ["internal/bytealg.IndexByteString", "internal/bytealg.IndexString"], unfollowed := true, recurses := true, named := ["transputer/instr.functions", "transputer/instr.operationNames", "internal/bytealg.MaxLen", "internal/strconv.uint64pow10", "math/bits.deBruijn32tab", "math/bits.deBruijn64tab"], apart := false, laid := [("math/bits.deBruijn32tab", laid_math_bits_deBruijn32tab), ("math/bits.deBruijn64tab", laid_math_bits_deBruijn64tab), ("internal/strconv.uint64pow10", laid_internal_strconv_uint64pow10), ("transputer/instr.functions", laid_transputer_instr_functions), ("transputer/instr.operationNames", laid_transputer_instr_operationNames)] }
def InstrNamedSaid : Prop := instrNamedRow.holds Tryd.pinned (OpenSpec.ofChange instrNamedSpec)

/-- ITS FALSE NEIGHBOUR: 'it returns false'. Refute it at one input. -/
def instrNamedWrong : ChangeSpec := { name := "instrNamed", fn := fun _ => fun
  | [d] => { results := [.lit (.bool false)], args := [d] }
  | _ => none }
def InstrNamedWrongFalsely : Prop := instrNamedRow.holds Tryd.pinned (OpenSpec.ofChange instrNamedWrong)

/-- 'transputerlaw05.InstrRead': WHATEVER THE INPUT: true; the input reads as it did. -/
def instrReadSpec : ChangeSpec := { name := "instrRead", fn := fun _ => fun
  | [d] => { results := [.lit (.bool true)], args := [d] }
  | _ => none }
def instrReadRow : OpenClaim := { program := "ytlockfoidhndeaadoor", sum := "8bbc1c248c82b8bc46e92b121361fc9ce8452d2e0405d792501920ce71a8fcbb", func := "transputer/transputerlaw05.InstrRead", spec := "instrRead", inPlace := ["internal/bytealg.IndexByteString", "internal/bytealg.IndexString"], unfollowed := true, recurses := true, named := ["internal/bytealg.MaxLen", "transputer/instr.functions", "transputer/instr.operationNames", "internal/strconv.uint64pow10", "math/bits.deBruijn32tab", "math/bits.deBruijn64tab"], apart := false, laid := [("math/bits.deBruijn32tab", laid_math_bits_deBruijn32tab), ("math/bits.deBruijn64tab", laid_math_bits_deBruijn64tab), ("internal/strconv.uint64pow10", laid_internal_strconv_uint64pow10), ("transputer/instr.functions", laid_transputer_instr_functions), ("transputer/instr.operationNames", laid_transputer_instr_operationNames)] }
def InstrReadSaid : Prop := instrReadRow.holds Tryd.pinned (OpenSpec.ofChange instrReadSpec)

/-- ITS FALSE NEIGHBOUR: 'it returns false'. Refute it at one input. -/
def instrReadWrong : ChangeSpec := { name := "instrRead", fn := fun _ => fun
  | [d] => { results := [.lit (.bool false)], args := [d] }
  | _ => none }
def InstrReadWrongFalsely : Prop := instrReadRow.holds Tryd.pinned (OpenSpec.ofChange instrReadWrong)

/-- 'transputerlaw05.InstrBack': WHATEVER THE INPUT: true; the input reads as it did. -/
def instrBackSpec : ChangeSpec := { name := "instrBack", fn := fun _ => fun
  | [d1, d2] => { results := [.lit (.bool true)], args := [d1, d2] }
  | _ => none }
def instrBackRow : OpenClaim := { program := "ytlockfoidhndeaadoor", sum := "8bbc1c248c82b8bc46e92b121361fc9ce8452d2e0405d792501920ce71a8fcbb", func := "transputer/transputerlaw05.InstrBack", spec := "instrBack", inPlace := ["internal/bytealg.IndexByteString", "internal/bytealg.IndexString"], unfollowed := true, recurses := true, named := ["transputer/instr.functions", "transputer/instr.operationNames", "internal/strconv.uint64pow10", "math/bits.deBruijn32tab", "math/bits.deBruijn64tab", "internal/bytealg.MaxLen"], apart := false, laid := [("math/bits.deBruijn32tab", laid_math_bits_deBruijn32tab), ("math/bits.deBruijn64tab", laid_math_bits_deBruijn64tab), ("internal/strconv.uint64pow10", laid_internal_strconv_uint64pow10), ("transputer/instr.functions", laid_transputer_instr_functions), ("transputer/instr.operationNames", laid_transputer_instr_operationNames)] }
def InstrBackSaid : Prop := instrBackRow.holds Tryd.pinned (OpenSpec.ofChange instrBackSpec)

/-- ITS FALSE NEIGHBOUR: 'it returns false'. Refute it at one input. -/
def instrBackWrong : ChangeSpec := { name := "instrBack", fn := fun _ => fun
  | [d1, d2] => { results := [.lit (.bool false)], args := [d1, d2] }
  | _ => none }
def InstrBackWrongFalsely : Prop := instrBackRow.holds Tryd.pinned (OpenSpec.ofChange instrBackWrong)

/-- 'transputerlaw05.InstrNames': WHATEVER THE INPUT: true; the input reads as it did. -/
def instrNamesSpec : ChangeSpec := { name := "instrNames", fn := fun _ => fun
  | [d] => { results := [.lit (.bool true)], args := [d] }
  | _ => none }
def instrNamesRow : OpenClaim := { program := "ytlockfoidhndeaadoor", sum := "8bbc1c248c82b8bc46e92b121361fc9ce8452d2e0405d792501920ce71a8fcbb", func := "transputer/transputerlaw05.InstrNames", spec := "instrNames", inPlace := ["internal/bytealg.IndexByteString", "internal/bytealg.IndexString", "internal/abi.NoEscape", "internal/bytealg.MakeNoZero"], unfollowed := true, recurses := true, named := ["transputer/instr.functions", "transputer/instr.operationNames", "internal/bytealg.MaxLen", "internal/strconv.uint64pow10", "math/bits.deBruijn32tab", "math/bits.deBruijn64tab", "unicode/utf8.first", "unicode/utf8.acceptRanges", "unicode.CaseRanges"], apart := false, laid := [("math/bits.deBruijn32tab", laid_math_bits_deBruijn32tab), ("math/bits.deBruijn64tab", laid_math_bits_deBruijn64tab), ("internal/strconv.uint64pow10", laid_internal_strconv_uint64pow10), ("unicode/utf8.acceptRanges", laid_unicode_utf8_acceptRanges), ("transputer/instr.functions", laid_transputer_instr_functions), ("transputer/instr.operationNames", laid_transputer_instr_operationNames), ("unicode.CaseRanges", laid_unicode_CaseRanges), ("unicode/utf8.first", laid_unicode_utf8_first)] }
def InstrNamesSaid : Prop := instrNamesRow.holds Tryd.pinned (OpenSpec.ofChange instrNamesSpec)

/-- ITS FALSE NEIGHBOUR: 'it returns false'. Refute it at one input. -/
def instrNamesWrong : ChangeSpec := { name := "instrNames", fn := fun _ => fun
  | [d] => { results := [.lit (.bool false)], args := [d] }
  | _ => none }
def InstrNamesWrongFalsely : Prop := instrNamesRow.holds Tryd.pinned (OpenSpec.ofChange instrNamesWrong)

/-- 'transputerlaw05.InstrCount': WHATEVER THE INPUT: true; the input reads as it did. -/
def instrCountSpec : ChangeSpec := { name := "instrCount", fn := fun _ => fun
  | [] => { results := [.lit (.bool true)], args := [] }
  | _ => none }
def instrCountRow : OpenClaim := { program := "ytlockfoidhndeaadoor", sum := "8bbc1c248c82b8bc46e92b121361fc9ce8452d2e0405d792501920ce71a8fcbb", func := "transputer/transputerlaw05.InstrCount", spec := "instrCount", inPlace := ["internal/bytealg.IndexByteString", "internal/bytealg.IndexString"], unfollowed := true, recurses := true, named := ["transputer/instr.functions", "transputer/instr.operationNames", "internal/bytealg.MaxLen", "internal/strconv.uint64pow10", "math/bits.deBruijn32tab", "math/bits.deBruijn64tab"], apart := false, laid := [("math/bits.deBruijn32tab", laid_math_bits_deBruijn32tab), ("math/bits.deBruijn64tab", laid_math_bits_deBruijn64tab), ("internal/strconv.uint64pow10", laid_internal_strconv_uint64pow10), ("transputer/instr.functions", laid_transputer_instr_functions), ("transputer/instr.operationNames", laid_transputer_instr_operationNames)] }
def InstrCountSaid : Prop := instrCountRow.holds Tryd.pinned (OpenSpec.ofChange instrCountSpec)

/-- ITS FALSE NEIGHBOUR: 'it returns false'. Refute it at one input. -/
def instrCountWrong : ChangeSpec := { name := "instrCount", fn := fun _ => fun
  | [] => { results := [.lit (.bool false)], args := [] }
  | _ => none }
def InstrCountWrongFalsely : Prop := instrCountRow.holds Tryd.pinned (OpenSpec.ofChange instrCountWrong)

/-- 'transputerlaw05.InstrHex': WHATEVER THE INPUT: true; the input reads as it did. -/
def instrHexSpec : ChangeSpec := { name := "instrHex", fn := fun _ => fun
  | [d] => { results := [.lit (.bool true)], args := [d] }
  | _ => none }
def instrHexRow : OpenClaim := { program := "ytlockfoidhndeaadoor", sum := "8bbc1c248c82b8bc46e92b121361fc9ce8452d2e0405d792501920ce71a8fcbb", func := "transputer/transputerlaw05.InstrHex", spec := "instrHex", inPlace := ["internal/bytealg.IndexByteString", "internal/bytealg.IndexString"], unfollowed := true, recurses := true, named := ["transputer/instr.functions", "transputer/instr.operationNames", "internal/bytealg.MaxLen", "internal/strconv.uint64pow10", "math/bits.deBruijn32tab", "math/bits.deBruijn64tab"], apart := false, laid := [("math/bits.deBruijn32tab", laid_math_bits_deBruijn32tab), ("math/bits.deBruijn64tab", laid_math_bits_deBruijn64tab), ("internal/strconv.uint64pow10", laid_internal_strconv_uint64pow10), ("transputer/instr.functions", laid_transputer_instr_functions), ("transputer/instr.operationNames", laid_transputer_instr_operationNames)] }
def InstrHexSaid : Prop := instrHexRow.holds Tryd.pinned (OpenSpec.ofChange instrHexSpec)

/-- ITS FALSE NEIGHBOUR: 'it returns false'. Refute it at one input. -/
def instrHexWrong : ChangeSpec := { name := "instrHex", fn := fun _ => fun
  | [d] => { results := [.lit (.bool false)], args := [d] }
  | _ => none }
def InstrHexWrongFalsely : Prop := instrHexRow.holds Tryd.pinned (OpenSpec.ofChange instrHexWrong)

/-- 'transputerlaw05.InstrWrong': WHATEVER THE INPUT: true; the input reads as it did. -/
def instrWrongSpec : ChangeSpec := { name := "instrWrong", fn := fun _ => fun
  | [d1, d2] => { results := [.lit (.bool true)], args := [d1, d2] }
  | _ => none }
def instrWrongRow : OpenClaim := { program := "ytlockfoidhndeaadoor", sum := "8bbc1c248c82b8bc46e92b121361fc9ce8452d2e0405d792501920ce71a8fcbb", func := "transputer/transputerlaw05.InstrWrong", spec := "instrWrong", inPlace := ["internal/bytealg.IndexByteString", "internal/bytealg.IndexString", "internal/abi.NoEscape", "internal/bytealg.MakeNoZero", "internal/bytealg.CountString"], unfollowed := true, recurses := true, named := ["transputer/instr.functions", "transputer/instr.operationNames", "internal/strconv.uint64pow10", "math/bits.deBruijn32tab", "math/bits.deBruijn64tab", "internal/bytealg.MaxLen", "unicode/utf8.first", "unicode/utf8.acceptRanges", "unicode.CaseRanges"], apart := false, laid := [("math/bits.deBruijn32tab", laid_math_bits_deBruijn32tab), ("math/bits.deBruijn64tab", laid_math_bits_deBruijn64tab), ("internal/strconv.uint64pow10", laid_internal_strconv_uint64pow10), ("unicode/utf8.acceptRanges", laid_unicode_utf8_acceptRanges), ("transputer/instr.functions", laid_transputer_instr_functions), ("transputer/instr.operationNames", laid_transputer_instr_operationNames), ("unicode.CaseRanges", laid_unicode_CaseRanges), ("unicode/utf8.first", laid_unicode_utf8_first)] }
def InstrWrongSaid : Prop := instrWrongRow.holds Tryd.pinned (OpenSpec.ofChange instrWrongSpec)

/-- ITS FALSE NEIGHBOUR: 'it returns false'. Refute it at one input. -/
def instrWrongWrong : ChangeSpec := { name := "instrWrong", fn := fun _ => fun
  | [d1, d2] => { results := [.lit (.bool false)], args := [d1, d2] }
  | _ => none }
def InstrWrongWrongFalsely : Prop := instrWrongRow.holds Tryd.pinned (OpenSpec.ofChange instrWrongWrong)

/- THE SECOND FORM. 'bulk': how many values and letters a reading holds, each counted each time it is reached (what is shared counts as often as it is met; a slice's spare places count too). A statement '..UptoSaid' is the law's where the arguments, and the package variables that the reading takes, are together of bulk at most 1048576: NARROWER than '..Said'. Prove '..Said' where nothing that the law and all that it calls make is longer than what came in: it says more and counts as full. Else prove '..UptoSaid'. A law counts once. -/
mutual
def uptoBulk {H : Type} : DataW H → Nat
  | .lit (.string bytes) => bytes.length + 1
  | .lit _ => 1
  | .nil => 1
  | .ptr d => uptoBulk d + 1
  | .slice elems spare => uptoBulkAll elems + uptoBulkAll spare + 1
  | .agg parts => uptoBulkAll parts + 1
  | .iface _ d => uptoBulk d + 1
  | .map entries => uptoBulkEntries entries + 1
  | .held _ => 1
def uptoBulkAll {H : Type} : List (DataW H) → Nat
  | [] => 0
  | d :: r => uptoBulk d + uptoBulkAll r
def uptoBulkEntries {H : Type} : List (Lit × DataW H) → Nat
  | [] => 0
  | x :: r => uptoBulkEntry x + uptoBulkEntries r
def uptoBulkEntry {H : Type} : Lit × DataW H → Nat
  | (.string bytes, d) => bytes.length + uptoBulk d + 1
  | (_, d) => uptoBulk d + 1
 end
def uptoSmall : (H : Type) → List (DataW H) → Bool := fun _ ds => decide (uptoBulkAll ds ≤ 1048576)
def OpenSpec.upto (s : _root_.Go.ChangeSpec) : _root_.Go.OpenSpec := { _root_.Go.OpenSpec.ofChange s with cond := some uptoSmall }

/-- 'transputerlaw05.InstrRows', WHERE WHAT IT READS IS OF BULK AT MOST 1048576: true; the input reads as it did. -/
def instrRowsUptoRow : OpenClaim := { program := "ytlockfoidhndeaadoor", sum := "8bbc1c248c82b8bc46e92b121361fc9ce8452d2e0405d792501920ce71a8fcbb", func := "transputer/transputerlaw05.InstrRows", spec := "instrRows", inPlace := ["internal/bytealg.IndexByteString", "internal/bytealg.IndexString"], unfollowed := true, recurses := true, named := ["transputer/instr.functions", "transputer/instr.operationNames", "internal/strconv.uint64pow10", "math/bits.deBruijn32tab", "math/bits.deBruijn64tab", "internal/bytealg.MaxLen"], apart := false, laid := [("math/bits.deBruijn32tab", laid_math_bits_deBruijn32tab), ("math/bits.deBruijn64tab", laid_math_bits_deBruijn64tab), ("internal/strconv.uint64pow10", laid_internal_strconv_uint64pow10), ("transputer/instr.functions", laid_transputer_instr_functions), ("transputer/instr.operationNames", laid_transputer_instr_operationNames)], narrowed := true }
def InstrRowsUptoSaid : Prop := instrRowsUptoRow.holds Tryd.pinned (OpenSpec.upto instrRowsSpec)

/-- 'transputerlaw05.InstrNamed', WHERE WHAT IT READS IS OF BULK AT MOST 1048576: true; the input reads as it did. -/
def instrNamedUptoRow : OpenClaim := { program := "ytlockfoidhndeaadoor", sum := "8bbc1c248c82b8bc46e92b121361fc9ce8452d2e0405d792501920ce71a8fcbb", func := "transputer/transputerlaw05.InstrNamed", spec := "instrNamed", inPlace := ["internal/bytealg.IndexByteString", "internal/bytealg.IndexString"], unfollowed := true, recurses := true, named := ["transputer/instr.functions", "transputer/instr.operationNames", "internal/bytealg.MaxLen", "internal/strconv.uint64pow10", "math/bits.deBruijn32tab", "math/bits.deBruijn64tab"], apart := false, laid := [("math/bits.deBruijn32tab", laid_math_bits_deBruijn32tab), ("math/bits.deBruijn64tab", laid_math_bits_deBruijn64tab), ("internal/strconv.uint64pow10", laid_internal_strconv_uint64pow10), ("transputer/instr.functions", laid_transputer_instr_functions), ("transputer/instr.operationNames", laid_transputer_instr_operationNames)], narrowed := true }
def InstrNamedUptoSaid : Prop := instrNamedUptoRow.holds Tryd.pinned (OpenSpec.upto instrNamedSpec)

/-- 'transputerlaw05.InstrRead', WHERE WHAT IT READS IS OF BULK AT MOST 1048576: true; the input reads as it did. -/
def instrReadUptoRow : OpenClaim := { program := "ytlockfoidhndeaadoor", sum := "8bbc1c248c82b8bc46e92b121361fc9ce8452d2e0405d792501920ce71a8fcbb", func := "transputer/transputerlaw05.InstrRead", spec := "instrRead", inPlace := ["internal/bytealg.IndexByteString", "internal/bytealg.IndexString"], unfollowed := true, recurses := true, named := ["internal/bytealg.MaxLen", "transputer/instr.functions", "transputer/instr.operationNames", "internal/strconv.uint64pow10", "math/bits.deBruijn32tab", "math/bits.deBruijn64tab"], apart := false, laid := [("math/bits.deBruijn32tab", laid_math_bits_deBruijn32tab), ("math/bits.deBruijn64tab", laid_math_bits_deBruijn64tab), ("internal/strconv.uint64pow10", laid_internal_strconv_uint64pow10), ("transputer/instr.functions", laid_transputer_instr_functions), ("transputer/instr.operationNames", laid_transputer_instr_operationNames)], narrowed := true }
def InstrReadUptoSaid : Prop := instrReadUptoRow.holds Tryd.pinned (OpenSpec.upto instrReadSpec)

/-- 'transputerlaw05.InstrBack', WHERE WHAT IT READS IS OF BULK AT MOST 1048576: true; the input reads as it did. -/
def instrBackUptoRow : OpenClaim := { program := "ytlockfoidhndeaadoor", sum := "8bbc1c248c82b8bc46e92b121361fc9ce8452d2e0405d792501920ce71a8fcbb", func := "transputer/transputerlaw05.InstrBack", spec := "instrBack", inPlace := ["internal/bytealg.IndexByteString", "internal/bytealg.IndexString"], unfollowed := true, recurses := true, named := ["transputer/instr.functions", "transputer/instr.operationNames", "internal/strconv.uint64pow10", "math/bits.deBruijn32tab", "math/bits.deBruijn64tab", "internal/bytealg.MaxLen"], apart := false, laid := [("math/bits.deBruijn32tab", laid_math_bits_deBruijn32tab), ("math/bits.deBruijn64tab", laid_math_bits_deBruijn64tab), ("internal/strconv.uint64pow10", laid_internal_strconv_uint64pow10), ("transputer/instr.functions", laid_transputer_instr_functions), ("transputer/instr.operationNames", laid_transputer_instr_operationNames)], narrowed := true }
def InstrBackUptoSaid : Prop := instrBackUptoRow.holds Tryd.pinned (OpenSpec.upto instrBackSpec)

/-- 'transputerlaw05.InstrNames', WHERE WHAT IT READS IS OF BULK AT MOST 1048576: true; the input reads as it did. -/
def instrNamesUptoRow : OpenClaim := { program := "ytlockfoidhndeaadoor", sum := "8bbc1c248c82b8bc46e92b121361fc9ce8452d2e0405d792501920ce71a8fcbb", func := "transputer/transputerlaw05.InstrNames", spec := "instrNames", inPlace := ["internal/bytealg.IndexByteString", "internal/bytealg.IndexString", "internal/abi.NoEscape", "internal/bytealg.MakeNoZero"], unfollowed := true, recurses := true, named := ["transputer/instr.functions", "transputer/instr.operationNames", "internal/bytealg.MaxLen", "internal/strconv.uint64pow10", "math/bits.deBruijn32tab", "math/bits.deBruijn64tab", "unicode/utf8.first", "unicode/utf8.acceptRanges", "unicode.CaseRanges"], apart := false, laid := [("math/bits.deBruijn32tab", laid_math_bits_deBruijn32tab), ("math/bits.deBruijn64tab", laid_math_bits_deBruijn64tab), ("internal/strconv.uint64pow10", laid_internal_strconv_uint64pow10), ("unicode/utf8.acceptRanges", laid_unicode_utf8_acceptRanges), ("transputer/instr.functions", laid_transputer_instr_functions), ("transputer/instr.operationNames", laid_transputer_instr_operationNames), ("unicode.CaseRanges", laid_unicode_CaseRanges), ("unicode/utf8.first", laid_unicode_utf8_first)], narrowed := true }
def InstrNamesUptoSaid : Prop := instrNamesUptoRow.holds Tryd.pinned (OpenSpec.upto instrNamesSpec)

/-- 'transputerlaw05.InstrCount', WHERE WHAT IT READS IS OF BULK AT MOST 1048576: true; the input reads as it did. -/
def instrCountUptoRow : OpenClaim := { program := "ytlockfoidhndeaadoor", sum := "8bbc1c248c82b8bc46e92b121361fc9ce8452d2e0405d792501920ce71a8fcbb", func := "transputer/transputerlaw05.InstrCount", spec := "instrCount", inPlace := ["internal/bytealg.IndexByteString", "internal/bytealg.IndexString"], unfollowed := true, recurses := true, named := ["transputer/instr.functions", "transputer/instr.operationNames", "internal/bytealg.MaxLen", "internal/strconv.uint64pow10", "math/bits.deBruijn32tab", "math/bits.deBruijn64tab"], apart := false, laid := [("math/bits.deBruijn32tab", laid_math_bits_deBruijn32tab), ("math/bits.deBruijn64tab", laid_math_bits_deBruijn64tab), ("internal/strconv.uint64pow10", laid_internal_strconv_uint64pow10), ("transputer/instr.functions", laid_transputer_instr_functions), ("transputer/instr.operationNames", laid_transputer_instr_operationNames)], narrowed := true }
def InstrCountUptoSaid : Prop := instrCountUptoRow.holds Tryd.pinned (OpenSpec.upto instrCountSpec)

/-- 'transputerlaw05.InstrHex', WHERE WHAT IT READS IS OF BULK AT MOST 1048576: true; the input reads as it did. -/
def instrHexUptoRow : OpenClaim := { program := "ytlockfoidhndeaadoor", sum := "8bbc1c248c82b8bc46e92b121361fc9ce8452d2e0405d792501920ce71a8fcbb", func := "transputer/transputerlaw05.InstrHex", spec := "instrHex", inPlace := ["internal/bytealg.IndexByteString", "internal/bytealg.IndexString"], unfollowed := true, recurses := true, named := ["transputer/instr.functions", "transputer/instr.operationNames", "internal/bytealg.MaxLen", "internal/strconv.uint64pow10", "math/bits.deBruijn32tab", "math/bits.deBruijn64tab"], apart := false, laid := [("math/bits.deBruijn32tab", laid_math_bits_deBruijn32tab), ("math/bits.deBruijn64tab", laid_math_bits_deBruijn64tab), ("internal/strconv.uint64pow10", laid_internal_strconv_uint64pow10), ("transputer/instr.functions", laid_transputer_instr_functions), ("transputer/instr.operationNames", laid_transputer_instr_operationNames)], narrowed := true }
def InstrHexUptoSaid : Prop := instrHexUptoRow.holds Tryd.pinned (OpenSpec.upto instrHexSpec)

/-- 'transputerlaw05.InstrWrong', WHERE WHAT IT READS IS OF BULK AT MOST 1048576: true; the input reads as it did. -/
def instrWrongUptoRow : OpenClaim := { program := "ytlockfoidhndeaadoor", sum := "8bbc1c248c82b8bc46e92b121361fc9ce8452d2e0405d792501920ce71a8fcbb", func := "transputer/transputerlaw05.InstrWrong", spec := "instrWrong", inPlace := ["internal/bytealg.IndexByteString", "internal/bytealg.IndexString", "internal/abi.NoEscape", "internal/bytealg.MakeNoZero", "internal/bytealg.CountString"], unfollowed := true, recurses := true, named := ["transputer/instr.functions", "transputer/instr.operationNames", "internal/strconv.uint64pow10", "math/bits.deBruijn32tab", "math/bits.deBruijn64tab", "internal/bytealg.MaxLen", "unicode/utf8.first", "unicode/utf8.acceptRanges", "unicode.CaseRanges"], apart := false, laid := [("math/bits.deBruijn32tab", laid_math_bits_deBruijn32tab), ("math/bits.deBruijn64tab", laid_math_bits_deBruijn64tab), ("internal/strconv.uint64pow10", laid_internal_strconv_uint64pow10), ("unicode/utf8.acceptRanges", laid_unicode_utf8_acceptRanges), ("transputer/instr.functions", laid_transputer_instr_functions), ("transputer/instr.operationNames", laid_transputer_instr_operationNames), ("unicode.CaseRanges", laid_unicode_CaseRanges), ("unicode/utf8.first", laid_unicode_utf8_first)], narrowed := true }
def InstrWrongUptoSaid : Prop := instrWrongUptoRow.holds Tryd.pinned (OpenSpec.upto instrWrongSpec)

end Rows
end Go.Proofs.YtlockfoidhndeaaDoor
