/-
  NARROWER THAN 'FOR EVERY INPUT', by the rows' own cells (each row's printed sentence says how): AsmLeast: laid · AsmJumps: laid · AsmNumbers: laid · AsmNames: laid.
  DERIVED. THE GIVEN ROWS OF THIS SEAT. 4 by the template 'for every input the law returns true; each argument reads behind the call as it read before'; 0 by the template 'total and deterministic' (their statements: YtjdjkdgdbdenpaaDoorTotals.lean).
  GIVEN WITH THE SEED: the statements are not yours to turn. If you find one false, say at which input.
  Laid BY PROGRAM, IN A SANDBOX (cutbox-rows.mjs): the forced cells as the released guide's own fill.sh prints them over the translation 12e9d4eeb882c260… (all of the seat's roots in one cut). By AI agents, Wed Nov 11 2026. No macro, syntax, notation, axiom, sorry.
-/
import Derived.Test.YtjdjkdgdbdenpaaDoorChecked
import GoSem.Claim
import GoSem.ClaimJoined
import GoSem.ClaimMapViews
import Derived.JoinedTies
import Derived.KernelRfl
namespace Go.Proofs.YtjdjkdgdbdenpaaDoor
/- THE CELL 'sum', in the pinned program and in every row, IS THE sha256 OF THE DUMP (.gsa) THAT YtjdjkdgdbdenpaaDoorProg.lean LOADS. Nothing in Lean hashes anything: it is a label: what it is worth is what the hold of that sum in a sandbox is worth. -/
noncomputable def Tryd.pinned : Pinned := { name := "ytjdjkdgdbdenpaadoor", sum := "12e9d4eeb882c26030abc3d4fc18c188ec74797b6ccaeb037b3d4582f78bbc06", checked := Tryd.checked }
namespace Rows
def none {H : Type} : Left H := { results := [], args := [] }

/- WHAT THE LISTED PACKAGE-LEVEL VARIABLES READ AS WHEN THE CALL BEGINS. Each datum BY PROGRAM (the guide's laid-datum.mjs) off the statement by which the dump's own 'gosem.cut.vars' lays the variable. In a bare row this is a premise. The card (YtjdjkdgdbdenpaaDoorCards.lean) ties it to the program's text. -/
def laid_math_bits_deBruijn32tab {H : Type} : DataW H := .agg [.lit (.int .u8 0), .lit (.int .u8 1), .lit (.int .u8 28), .lit (.int .u8 2), .lit (.int .u8 29), .lit (.int .u8 14), .lit (.int .u8 24), .lit (.int .u8 3), .lit (.int .u8 30), .lit (.int .u8 22), .lit (.int .u8 20), .lit (.int .u8 15), .lit (.int .u8 25), .lit (.int .u8 17), .lit (.int .u8 4), .lit (.int .u8 8), .lit (.int .u8 31), .lit (.int .u8 27), .lit (.int .u8 13), .lit (.int .u8 23), .lit (.int .u8 21), .lit (.int .u8 19), .lit (.int .u8 16), .lit (.int .u8 7), .lit (.int .u8 26), .lit (.int .u8 12), .lit (.int .u8 18), .lit (.int .u8 6), .lit (.int .u8 11), .lit (.int .u8 5), .lit (.int .u8 10), .lit (.int .u8 9)]
def laid_math_bits_deBruijn64tab {H : Type} : DataW H := .agg [.lit (.int .u8 0), .lit (.int .u8 1), .lit (.int .u8 56), .lit (.int .u8 2), .lit (.int .u8 57), .lit (.int .u8 49), .lit (.int .u8 28), .lit (.int .u8 3), .lit (.int .u8 61), .lit (.int .u8 58), .lit (.int .u8 42), .lit (.int .u8 50), .lit (.int .u8 38), .lit (.int .u8 29), .lit (.int .u8 17), .lit (.int .u8 4), .lit (.int .u8 62), .lit (.int .u8 47), .lit (.int .u8 59), .lit (.int .u8 36), .lit (.int .u8 45), .lit (.int .u8 43), .lit (.int .u8 51), .lit (.int .u8 22), .lit (.int .u8 53), .lit (.int .u8 39), .lit (.int .u8 33), .lit (.int .u8 30), .lit (.int .u8 24), .lit (.int .u8 18), .lit (.int .u8 12), .lit (.int .u8 5), .lit (.int .u8 63), .lit (.int .u8 55), .lit (.int .u8 48), .lit (.int .u8 27), .lit (.int .u8 60), .lit (.int .u8 41), .lit (.int .u8 37), .lit (.int .u8 16), .lit (.int .u8 46), .lit (.int .u8 35), .lit (.int .u8 44), .lit (.int .u8 21), .lit (.int .u8 52), .lit (.int .u8 32), .lit (.int .u8 23), .lit (.int .u8 11), .lit (.int .u8 54), .lit (.int .u8 26), .lit (.int .u8 40), .lit (.int .u8 15), .lit (.int .u8 34), .lit (.int .u8 20), .lit (.int .u8 31), .lit (.int .u8 10), .lit (.int .u8 25), .lit (.int .u8 14), .lit (.int .u8 19), .lit (.int .u8 9), .lit (.int .u8 13), .lit (.int .u8 8), .lit (.int .u8 7), .lit (.int .u8 6)]
def laid_internal_strconv_uint64pow10 {H : Type} : DataW H := .agg [.lit (.int .u64 1), .lit (.int .u64 10), .lit (.int .u64 100), .lit (.int .u64 1000), .lit (.int .u64 10000), .lit (.int .u64 100000), .lit (.int .u64 1000000), .lit (.int .u64 10000000), .lit (.int .u64 100000000), .lit (.int .u64 1000000000), .lit (.int .u64 10000000000), .lit (.int .u64 100000000000), .lit (.int .u64 1000000000000), .lit (.int .u64 10000000000000), .lit (.int .u64 100000000000000), .lit (.int .u64 1000000000000000), .lit (.int .u64 10000000000000000), .lit (.int .u64 100000000000000000), .lit (.int .u64 1000000000000000000), .lit (.int .u64 10000000000000000000)]
def laid_transputer_instr_functions {H : Type} : DataW H := .agg [.agg [.lit (.string [106]), .lit (.int .i64 0), .lit (.int .i64 0)], .agg [.lit (.string [108, 100, 108, 112]), .lit (.int .i64 0), .lit (.int .i64 1)], .agg [.lit (.string []), .lit (.int .i64 0), .lit (.int .i64 0)], .agg [.lit (.string [108, 100, 110, 108]), .lit (.int .i64 1), .lit (.int .i64 1)], .agg [.lit (.string [108, 100, 99]), .lit (.int .i64 0), .lit (.int .i64 1)], .agg [.lit (.string [108, 100, 110, 108, 112]), .lit (.int .i64 1), .lit (.int .i64 1)], .agg [.lit (.string []), .lit (.int .i64 0), .lit (.int .i64 0)], .agg [.lit (.string [108, 100, 108]), .lit (.int .i64 0), .lit (.int .i64 1)], .agg [.lit (.string [97, 100, 99]), .lit (.int .i64 1), .lit (.int .i64 1)], .agg [.lit (.string [99, 97, 108, 108]), .lit (.int .i64 3), .lit (.int .i64 1)], .agg [.lit (.string [99, 106]), .lit (.int .i64 1), .lit (.int .i64 0)], .agg [.lit (.string [97, 106, 119]), .lit (.int .i64 0), .lit (.int .i64 0)], .agg [.lit (.string [101, 113, 99]), .lit (.int .i64 1), .lit (.int .i64 1)], .agg [.lit (.string [115, 116, 108]), .lit (.int .i64 1), .lit (.int .i64 0)], .agg [.lit (.string [115, 116, 110, 108]), .lit (.int .i64 2), .lit (.int .i64 0)]]
def laid_transputer_instr_operationNames {H : Type} : DataW H := .agg [.lit (.string [114, 101, 118]), .lit (.string [108, 98]), .lit (.string [98, 115, 117, 98]), .lit (.string [101, 110, 100, 112]), .lit (.string [100, 105, 102, 102]), .lit (.string [97, 100, 100]), .lit (.string [103, 99, 97, 108, 108]), .lit (.string [105, 110]), .lit (.string [112, 114, 111, 100]), .lit (.string [103, 116]), .lit (.string [119, 115, 117, 98]), .lit (.string [111, 117, 116]), .lit (.string [115, 117, 98]), .lit (.string [115, 116, 97, 114, 116, 112]), .lit (.string [111, 117, 116, 98, 121, 116, 101]), .lit (.string [111, 117, 116, 119, 111, 114, 100]), .lit (.string [115, 101, 116, 101, 114, 114]), .lit (.string []), .lit (.string [114, 101, 115, 101, 116, 99, 104]), .lit (.string [99, 115, 117, 98, 48]), .lit (.string []), .lit (.string [115, 116, 111, 112, 112]), .lit (.string [108, 97, 100, 100]), .lit (.string []), .lit (.string []), .lit (.string [110, 111, 114, 109]), .lit (.string [108, 100, 105, 118]), .lit (.string [108, 100, 112, 105]), .lit (.string []), .lit (.string [120, 100, 98, 108, 101]), .lit (.string [108, 100, 112, 114, 105]), .lit (.string [114, 101, 109]), .lit (.string [114, 101, 116]), .lit (.string [108, 101, 110, 100]), .lit (.string [108, 100, 116, 105, 109, 101, 114]), .lit (.string []), .lit (.string []), .lit (.string []), .lit (.string []), .lit (.string []), .lit (.string []), .lit (.string [116, 101, 115, 116, 101, 114, 114]), .lit (.string []), .lit (.string [116, 105, 110]), .lit (.string [100, 105, 118]), .lit (.string []), .lit (.string [100, 105, 115, 116]), .lit (.string [100, 105, 115, 99]), .lit (.string [100, 105, 115, 115]), .lit (.string [108, 109, 117, 108]), .lit (.string [110, 111, 116]), .lit (.string [120, 111, 114]), .lit (.string [98, 99, 110, 116]), .lit (.string [108, 115, 104, 114]), .lit (.string [108, 115, 104, 108]), .lit (.string [108, 115, 117, 109]), .lit (.string [108, 115, 117, 98]), .lit (.string [114, 117, 110, 112]), .lit (.string [120, 119, 111, 114, 100]), .lit (.string [115, 98]), .lit (.string [103, 97, 106, 119]), .lit (.string []), .lit (.string []), .lit (.string [119, 99, 110, 116]), .lit (.string [115, 104, 114]), .lit (.string [115, 104, 108]), .lit (.string [109, 105, 110, 116]), .lit (.string [97, 108, 116]), .lit (.string [97, 108, 116, 119, 116]), .lit (.string [97, 108, 116, 101, 110, 100]), .lit (.string [97, 110, 100]), .lit (.string [101, 110, 98, 116]), .lit (.string [101, 110, 98, 99]), .lit (.string [101, 110, 98, 115]), .lit (.string [109, 111, 118, 101]), .lit (.string [111, 114]), .lit (.string [99, 115, 110, 103, 108]), .lit (.string [99, 99, 110, 116, 49]), .lit (.string [116, 97, 108, 116]), .lit (.string [108, 100, 105, 102, 102]), .lit (.string []), .lit (.string [116, 97, 108, 116, 119, 116]), .lit (.string [115, 117, 109]), .lit (.string [109, 117, 108]), .lit (.string [115, 116, 116, 105, 109, 101, 114]), .lit (.string [115, 116, 111, 112, 101, 114, 114]), .lit (.string [99, 119, 111, 114, 100]), .lit (.string [99, 108, 114, 104, 97, 108, 116, 101, 114, 114]), .lit (.string [115, 101, 116, 104, 97, 108, 116, 101, 114, 114]), .lit (.string [116, 101, 115, 116, 104, 97, 108, 116, 101, 114, 114])]

/-- 'transputerlaw06.AsmLeast': WHATEVER THE INPUT: true; the input reads as it did. -/
def asmLeastSpec : ChangeSpec := { name := "asmLeast", fn := fun _ => fun
  | [d1, d2] => { results := [.lit (.bool true)], args := [d1, d2] }
  | _ => none }
def asmLeastRow : OpenClaim := { program := "ytjdjkdgdbdenpaadoor", sum := "12e9d4eeb882c26030abc3d4fc18c188ec74797b6ccaeb037b3d4582f78bbc06", func := "transputer/transputerlaw06.AsmLeast", spec := "asmLeast", inPlace := ["internal/abi.NoEscape", "internal/bytealg.IndexByteString", "internal/bytealg.IndexString"], unfollowed := true, recurses := true, named := ["transputer/instr.functions", "transputer/instr.operationNames", "internal/strconv.uint64pow10", "math/bits.deBruijn32tab", "math/bits.deBruijn64tab", "internal/bytealg.MaxLen"], apart := false, laid := [("math/bits.deBruijn32tab", laid_math_bits_deBruijn32tab), ("math/bits.deBruijn64tab", laid_math_bits_deBruijn64tab), ("internal/strconv.uint64pow10", laid_internal_strconv_uint64pow10), ("transputer/instr.functions", laid_transputer_instr_functions), ("transputer/instr.operationNames", laid_transputer_instr_operationNames)] }
def AsmLeastSaid : Prop := asmLeastRow.holds Tryd.pinned (OpenSpec.ofChange asmLeastSpec)

/-- ITS FALSE NEIGHBOUR: 'it returns false'. Refute it at one input. -/
def asmLeastWrong : ChangeSpec := { name := "asmLeast", fn := fun _ => fun
  | [d1, d2] => { results := [.lit (.bool false)], args := [d1, d2] }
  | _ => none }
def AsmLeastWrongFalsely : Prop := asmLeastRow.holds Tryd.pinned (OpenSpec.ofChange asmLeastWrong)

/-- 'transputerlaw06.AsmJumps': WHATEVER THE INPUT: true; the input reads as it did. -/
def asmJumpsSpec : ChangeSpec := { name := "asmJumps", fn := fun _ => fun
  | [d] => { results := [.lit (.bool true)], args := [d] }
  | _ => none }
def asmJumpsRow : OpenClaim := { program := "ytjdjkdgdbdenpaadoor", sum := "12e9d4eeb882c26030abc3d4fc18c188ec74797b6ccaeb037b3d4582f78bbc06", func := "transputer/transputerlaw06.AsmJumps", spec := "asmJumps", inPlace := ["internal/abi.NoEscape", "internal/bytealg.IndexByteString", "internal/bytealg.IndexString"], unfollowed := true, recurses := true, named := ["transputer/instr.functions", "transputer/instr.operationNames", "internal/strconv.uint64pow10", "math/bits.deBruijn32tab", "math/bits.deBruijn64tab", "internal/bytealg.MaxLen"], apart := false, laid := [("math/bits.deBruijn32tab", laid_math_bits_deBruijn32tab), ("math/bits.deBruijn64tab", laid_math_bits_deBruijn64tab), ("internal/strconv.uint64pow10", laid_internal_strconv_uint64pow10), ("transputer/instr.functions", laid_transputer_instr_functions), ("transputer/instr.operationNames", laid_transputer_instr_operationNames)] }
def AsmJumpsSaid : Prop := asmJumpsRow.holds Tryd.pinned (OpenSpec.ofChange asmJumpsSpec)

/-- ITS FALSE NEIGHBOUR: 'it returns false'. Refute it at one input. -/
def asmJumpsWrong : ChangeSpec := { name := "asmJumps", fn := fun _ => fun
  | [d] => { results := [.lit (.bool false)], args := [d] }
  | _ => none }
def AsmJumpsWrongFalsely : Prop := asmJumpsRow.holds Tryd.pinned (OpenSpec.ofChange asmJumpsWrong)

/-- 'transputerlaw06.AsmNumbers': WHATEVER THE INPUT: true; the input reads as it did. -/
def asmNumbersSpec : ChangeSpec := { name := "asmNumbers", fn := fun _ => fun
  | [d] => { results := [.lit (.bool true)], args := [d] }
  | _ => none }
def asmNumbersRow : OpenClaim := { program := "ytjdjkdgdbdenpaadoor", sum := "12e9d4eeb882c26030abc3d4fc18c188ec74797b6ccaeb037b3d4582f78bbc06", func := "transputer/transputerlaw06.AsmNumbers", spec := "asmNumbers", inPlace := ["internal/abi.NoEscape", "internal/bytealg.IndexByteString", "internal/bytealg.IndexString"], unfollowed := true, recurses := true, named := ["transputer/instr.functions", "transputer/instr.operationNames", "internal/strconv.uint64pow10", "math/bits.deBruijn32tab", "math/bits.deBruijn64tab", "internal/bytealg.MaxLen"], apart := false, laid := [("math/bits.deBruijn32tab", laid_math_bits_deBruijn32tab), ("math/bits.deBruijn64tab", laid_math_bits_deBruijn64tab), ("internal/strconv.uint64pow10", laid_internal_strconv_uint64pow10), ("transputer/instr.functions", laid_transputer_instr_functions), ("transputer/instr.operationNames", laid_transputer_instr_operationNames)] }
def AsmNumbersSaid : Prop := asmNumbersRow.holds Tryd.pinned (OpenSpec.ofChange asmNumbersSpec)

/-- ITS FALSE NEIGHBOUR: 'it returns false'. Refute it at one input. -/
def asmNumbersWrong : ChangeSpec := { name := "asmNumbers", fn := fun _ => fun
  | [d] => { results := [.lit (.bool false)], args := [d] }
  | _ => none }
def AsmNumbersWrongFalsely : Prop := asmNumbersRow.holds Tryd.pinned (OpenSpec.ofChange asmNumbersWrong)

/-- 'transputerlaw06.AsmNames': WHATEVER THE INPUT: true; the input reads as it did. -/
def asmNamesSpec : ChangeSpec := { name := "asmNames", fn := fun _ => fun
  | [d] => { results := [.lit (.bool true)], args := [d] }
  | _ => none }
def asmNamesRow : OpenClaim := { program := "ytjdjkdgdbdenpaadoor", sum := "12e9d4eeb882c26030abc3d4fc18c188ec74797b6ccaeb037b3d4582f78bbc06", func := "transputer/transputerlaw06.AsmNames", spec := "asmNames", inPlace := ["internal/abi.NoEscape", "internal/bytealg.IndexByteString", "internal/bytealg.IndexString"], unfollowed := true, recurses := true, named := ["transputer/instr.functions", "transputer/instr.operationNames", "internal/strconv.uint64pow10", "math/bits.deBruijn32tab", "math/bits.deBruijn64tab", "internal/bytealg.MaxLen"], apart := false, laid := [("math/bits.deBruijn32tab", laid_math_bits_deBruijn32tab), ("math/bits.deBruijn64tab", laid_math_bits_deBruijn64tab), ("internal/strconv.uint64pow10", laid_internal_strconv_uint64pow10), ("transputer/instr.functions", laid_transputer_instr_functions), ("transputer/instr.operationNames", laid_transputer_instr_operationNames)] }
def AsmNamesSaid : Prop := asmNamesRow.holds Tryd.pinned (OpenSpec.ofChange asmNamesSpec)

/-- ITS FALSE NEIGHBOUR: 'it returns false'. Refute it at one input. -/
def asmNamesWrong : ChangeSpec := { name := "asmNames", fn := fun _ => fun
  | [d] => { results := [.lit (.bool false)], args := [d] }
  | _ => none }
def AsmNamesWrongFalsely : Prop := asmNamesRow.holds Tryd.pinned (OpenSpec.ofChange asmNamesWrong)

/- THE SECOND FORM. 'bulk': how many values and letters a reading holds, each counted each time it is reached (what is shared counts as often as it is met; a slice's spare places count too). A statement '..UptoSaid' is the law's where the arguments, and the package variables that the reading takes, are together of bulk at most 1048576: NARROWER than '..Said'. Prove '..Said' where nothing that the law and all that it calls make is longer than what came in: it says more and counts as full. Else prove '..UptoSaid'. A law counts once. -/
mutual
def uptoBulk {H : Type} : DataW H → Nat
  | .lit (.string bytes) => bytes.length + 1
  | .lit _ => 1
  | .nil => 1
  | .ptr d => uptoBulk d + 1
  | .slice elems spare => uptoBulkAll elems + uptoBulkAll spare + 1
  | .agg parts => uptoBulkAll parts + 1
  | .iface _ d => uptoBulk d + 1
  | .map entries => uptoBulkEntries entries + 1
  | .held _ => 1
def uptoBulkAll {H : Type} : List (DataW H) → Nat
  | [] => 0
  | d :: r => uptoBulk d + uptoBulkAll r
def uptoBulkEntries {H : Type} : List (Lit × DataW H) → Nat
  | [] => 0
  | x :: r => uptoBulkEntry x + uptoBulkEntries r
def uptoBulkEntry {H : Type} : Lit × DataW H → Nat
  | (.string bytes, d) => bytes.length + uptoBulk d + 1
  | (_, d) => uptoBulk d + 1
 end
def uptoSmall : (H : Type) → List (DataW H) → Bool := fun _ ds => decide (uptoBulkAll ds ≤ 1048576)
def OpenSpec.upto (s : _root_.Go.ChangeSpec) : _root_.Go.OpenSpec := { _root_.Go.OpenSpec.ofChange s with cond := some uptoSmall }

/-- 'transputerlaw06.AsmLeast', WHERE WHAT IT READS IS OF BULK AT MOST 1048576: true; the input reads as it did. -/
def asmLeastUptoRow : OpenClaim := { program := "ytjdjkdgdbdenpaadoor", sum := "12e9d4eeb882c26030abc3d4fc18c188ec74797b6ccaeb037b3d4582f78bbc06", func := "transputer/transputerlaw06.AsmLeast", spec := "asmLeast", inPlace := ["internal/abi.NoEscape", "internal/bytealg.IndexByteString", "internal/bytealg.IndexString"], unfollowed := true, recurses := true, named := ["transputer/instr.functions", "transputer/instr.operationNames", "internal/strconv.uint64pow10", "math/bits.deBruijn32tab", "math/bits.deBruijn64tab", "internal/bytealg.MaxLen"], apart := false, laid := [("math/bits.deBruijn32tab", laid_math_bits_deBruijn32tab), ("math/bits.deBruijn64tab", laid_math_bits_deBruijn64tab), ("internal/strconv.uint64pow10", laid_internal_strconv_uint64pow10), ("transputer/instr.functions", laid_transputer_instr_functions), ("transputer/instr.operationNames", laid_transputer_instr_operationNames)], narrowed := true }
def AsmLeastUptoSaid : Prop := asmLeastUptoRow.holds Tryd.pinned (OpenSpec.upto asmLeastSpec)

/-- 'transputerlaw06.AsmJumps', WHERE WHAT IT READS IS OF BULK AT MOST 1048576: true; the input reads as it did. -/
def asmJumpsUptoRow : OpenClaim := { program := "ytjdjkdgdbdenpaadoor", sum := "12e9d4eeb882c26030abc3d4fc18c188ec74797b6ccaeb037b3d4582f78bbc06", func := "transputer/transputerlaw06.AsmJumps", spec := "asmJumps", inPlace := ["internal/abi.NoEscape", "internal/bytealg.IndexByteString", "internal/bytealg.IndexString"], unfollowed := true, recurses := true, named := ["transputer/instr.functions", "transputer/instr.operationNames", "internal/strconv.uint64pow10", "math/bits.deBruijn32tab", "math/bits.deBruijn64tab", "internal/bytealg.MaxLen"], apart := false, laid := [("math/bits.deBruijn32tab", laid_math_bits_deBruijn32tab), ("math/bits.deBruijn64tab", laid_math_bits_deBruijn64tab), ("internal/strconv.uint64pow10", laid_internal_strconv_uint64pow10), ("transputer/instr.functions", laid_transputer_instr_functions), ("transputer/instr.operationNames", laid_transputer_instr_operationNames)], narrowed := true }
def AsmJumpsUptoSaid : Prop := asmJumpsUptoRow.holds Tryd.pinned (OpenSpec.upto asmJumpsSpec)

/-- 'transputerlaw06.AsmNumbers', WHERE WHAT IT READS IS OF BULK AT MOST 1048576: true; the input reads as it did. -/
def asmNumbersUptoRow : OpenClaim := { program := "ytjdjkdgdbdenpaadoor", sum := "12e9d4eeb882c26030abc3d4fc18c188ec74797b6ccaeb037b3d4582f78bbc06", func := "transputer/transputerlaw06.AsmNumbers", spec := "asmNumbers", inPlace := ["internal/abi.NoEscape", "internal/bytealg.IndexByteString", "internal/bytealg.IndexString"], unfollowed := true, recurses := true, named := ["transputer/instr.functions", "transputer/instr.operationNames", "internal/strconv.uint64pow10", "math/bits.deBruijn32tab", "math/bits.deBruijn64tab", "internal/bytealg.MaxLen"], apart := false, laid := [("math/bits.deBruijn32tab", laid_math_bits_deBruijn32tab), ("math/bits.deBruijn64tab", laid_math_bits_deBruijn64tab), ("internal/strconv.uint64pow10", laid_internal_strconv_uint64pow10), ("transputer/instr.functions", laid_transputer_instr_functions), ("transputer/instr.operationNames", laid_transputer_instr_operationNames)], narrowed := true }
def AsmNumbersUptoSaid : Prop := asmNumbersUptoRow.holds Tryd.pinned (OpenSpec.upto asmNumbersSpec)

/-- 'transputerlaw06.AsmNames', WHERE WHAT IT READS IS OF BULK AT MOST 1048576: true; the input reads as it did. -/
def asmNamesUptoRow : OpenClaim := { program := "ytjdjkdgdbdenpaadoor", sum := "12e9d4eeb882c26030abc3d4fc18c188ec74797b6ccaeb037b3d4582f78bbc06", func := "transputer/transputerlaw06.AsmNames", spec := "asmNames", inPlace := ["internal/abi.NoEscape", "internal/bytealg.IndexByteString", "internal/bytealg.IndexString"], unfollowed := true, recurses := true, named := ["transputer/instr.functions", "transputer/instr.operationNames", "internal/strconv.uint64pow10", "math/bits.deBruijn32tab", "math/bits.deBruijn64tab", "internal/bytealg.MaxLen"], apart := false, laid := [("math/bits.deBruijn32tab", laid_math_bits_deBruijn32tab), ("math/bits.deBruijn64tab", laid_math_bits_deBruijn64tab), ("internal/strconv.uint64pow10", laid_internal_strconv_uint64pow10), ("transputer/instr.functions", laid_transputer_instr_functions), ("transputer/instr.operationNames", laid_transputer_instr_operationNames)], narrowed := true }
def AsmNamesUptoSaid : Prop := asmNamesUptoRow.holds Tryd.pinned (OpenSpec.upto asmNamesSpec)

end Rows
end Go.Proofs.YtjdjkdgdbdenpaaDoor
