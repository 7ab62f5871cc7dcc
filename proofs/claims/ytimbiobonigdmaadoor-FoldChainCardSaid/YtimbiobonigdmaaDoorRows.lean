/-
  NARROWER THAN 'FOR EVERY INPUT', by the rows' own cells (each row's printed sentence says how): FoldApply: laid · FoldKeeps: loops, laid · FoldAgain: loops, laid · FoldLaws: laid · FoldChain: laid · FoldShadows: laid.
  DERIVED. THE GIVEN ROWS OF THIS SEAT. 6 by the template 'for every input the law returns true; each argument reads behind the call as it read before'; 0 by the template 'total and deterministic' (their statements: YtimbiobonigdmaaDoorTotals.lean).
  GIVEN WITH THE SEED: the statements are not yours to turn. If you find one false, say at which input.
  Laid BY PROGRAM, IN A SANDBOX (cutbox-rows.mjs): the forced cells as the released guide's own fill.sh prints them over the translation 4bb9d61489949876… (all of the seat's roots in one cut). By AI agents, Wed Nov 11 2026. No macro, syntax, notation, axiom, sorry.
-/
import Derived.Test.YtimbiobonigdmaaDoorChecked
import GoSem.Claim
import GoSem.ClaimJoined
import GoSem.ClaimMapViews
import Derived.JoinedTies
import Derived.KernelRfl
namespace Go.Proofs.YtimbiobonigdmaaDoor
/- THE CELL 'sum', in the pinned program and in every row, IS THE sha256 OF THE DUMP (.gsa) THAT YtimbiobonigdmaaDoorProg.lean LOADS. Nothing in Lean hashes anything: it is a label: what it is worth is what the hold of that sum in a sandbox is worth. -/
noncomputable def Tryd.pinned : Pinned := { name := "ytimbiobonigdmaadoor", sum := "4bb9d614899498763b5fb9338f56985386a38d561f7dcc3c0093cf681d42653e", checked := Tryd.checked }
namespace Rows
def none {H : Type} : Left H := { results := [], args := [] }

/- WHAT THE LISTED PACKAGE-LEVEL VARIABLES READ AS WHEN THE CALL BEGINS. Each datum BY PROGRAM (the guide's laid-datum.mjs) off the statement by which the dump's own 'gosem.cut.vars' lays the variable. In a bare row this is a premise. The card (YtimbiobonigdmaaDoorCards.lean) ties it to the program's text. -/
def laid_transputer_expr_forms {H : Type} : DataW H := .agg [.agg [.lit (.int .i32 0), .lit (.int .i32 0), .lit (.int .u8 0), .lit (.int .u8 0), .lit (.int .u8 0), .lit (.int .u8 0), .lit (.bool false), .lit (.int .i64 0)], .agg [.lit (.int .i32 (-2147483648)), .lit (.int .i32 2147483647), .lit (.int .u8 0), .lit (.int .u8 0), .lit (.int .u8 0), .lit (.int .u8 0), .lit (.bool false), .lit (.int .i64 0)], .agg [.lit (.int .i32 0), .lit (.int .i32 255), .lit (.int .u8 0), .lit (.int .u8 0), .lit (.int .u8 0), .lit (.int .u8 0), .lit (.bool false), .lit (.int .i64 0)], .agg [.lit (.int .i32 0), .lit (.int .i32 1), .lit (.int .u8 0), .lit (.int .u8 0), .lit (.int .u8 0), .lit (.int .u8 0), .lit (.bool false), .lit (.int .i64 0)], .agg [.lit (.int .i32 0), .lit (.int .i32 0), .lit (.int .u8 0), .lit (.int .u8 0), .lit (.int .u8 0), .lit (.int .u8 0), .lit (.bool true), .lit (.int .i64 0)], .agg [.lit (.int .i32 0), .lit (.int .i32 0), .lit (.int .u8 0), .lit (.int .u8 0), .lit (.int .u8 0), .lit (.int .u8 0), .lit (.bool true), .lit (.int .i64 1)], .agg [.lit (.int .i32 0), .lit (.int .i32 0), .lit (.int .u8 23), .lit (.int .u8 26), .lit (.int .u8 0), .lit (.int .u8 0), .lit (.bool false), .lit (.int .i64 1)], .agg [.lit (.int .i32 0), .lit (.int .i32 0), .lit (.int .u8 1), .lit (.int .u8 22), .lit (.int .u8 0), .lit (.int .u8 0), .lit (.bool false), .lit (.int .i64 2)], .agg [.lit (.int .i32 0), .lit (.int .i32 0), .lit (.int .u8 0), .lit (.int .u8 0), .lit (.int .u8 1), .lit (.int .u8 3), .lit (.bool false), .lit (.int .i64 1)], .agg [.lit (.int .i32 0), .lit (.int .i32 0), .lit (.int .u8 0), .lit (.int .u8 0), .lit (.int .u8 0), .lit (.int .u8 0), .lit (.bool true), .lit (.int .i64 0)]]

/-- 'transputerlaw14.FoldApply': WHATEVER THE INPUT: true; the input reads as it did. -/
def foldApplySpec : ChangeSpec := { name := "foldApply", fn := fun _ => fun
  | [d1, d2, d3] => { results := [.lit (.bool true)], args := [d1, d2, d3] }
  | _ => none }
def foldApplyRow : OpenClaim := { program := "ytimbiobonigdmaadoor", sum := "4bb9d614899498763b5fb9338f56985386a38d561f7dcc3c0093cf681d42653e", func := "transputer/transputerlaw14.FoldApply", spec := "foldApply", unfollowed := true, recurses := true, named := ["transputer/expr.forms"], apart := false, laid := [("transputer/expr.forms", laid_transputer_expr_forms)] }
def FoldApplySaid : Prop := foldApplyRow.holds Tryd.pinned (OpenSpec.ofChange foldApplySpec)

/-- ITS FALSE NEIGHBOUR: 'it returns false'. Refute it at one input. -/
def foldApplyWrong : ChangeSpec := { name := "foldApply", fn := fun _ => fun
  | [d1, d2, d3] => { results := [.lit (.bool false)], args := [d1, d2, d3] }
  | _ => none }
def FoldApplyWrongFalsely : Prop := foldApplyRow.holds Tryd.pinned (OpenSpec.ofChange foldApplyWrong)

/-- 'transputerlaw14.FoldKeeps': WHATEVER THE INPUT: true; the input reads as it did. -/
def foldKeepsSpec : ChangeSpec := { name := "foldKeeps", fn := fun _ => fun
  | [d1, d2, d3] => { results := [.lit (.bool true)], args := [d1, d2, d3] }
  | _ => none }
def foldKeepsRow : OpenClaim := { program := "ytimbiobonigdmaadoor", sum := "4bb9d614899498763b5fb9338f56985386a38d561f7dcc3c0093cf681d42653e", func := "transputer/transputerlaw14.FoldKeeps", spec := "foldKeeps", unfollowed := true, recurses := true, named := ["transputer/expr.forms"], loops := true, apart := false, laid := [("transputer/expr.forms", laid_transputer_expr_forms)] }
def FoldKeepsSaid : Prop := foldKeepsRow.holds Tryd.pinned (OpenSpec.ofChange foldKeepsSpec)

/-- ITS FALSE NEIGHBOUR: 'it returns false'. Refute it at one input. -/
def foldKeepsWrong : ChangeSpec := { name := "foldKeeps", fn := fun _ => fun
  | [d1, d2, d3] => { results := [.lit (.bool false)], args := [d1, d2, d3] }
  | _ => none }
def FoldKeepsWrongFalsely : Prop := foldKeepsRow.holds Tryd.pinned (OpenSpec.ofChange foldKeepsWrong)

/-- 'transputerlaw14.FoldAgain': WHATEVER THE INPUT: true; the input reads as it did. -/
def foldAgainSpec : ChangeSpec := { name := "foldAgain", fn := fun _ => fun
  | [d1, d2] => { results := [.lit (.bool true)], args := [d1, d2] }
  | _ => none }
def foldAgainRow : OpenClaim := { program := "ytimbiobonigdmaadoor", sum := "4bb9d614899498763b5fb9338f56985386a38d561f7dcc3c0093cf681d42653e", func := "transputer/transputerlaw14.FoldAgain", spec := "foldAgain", unfollowed := true, recurses := true, named := ["transputer/expr.forms"], loops := true, apart := false, laid := [("transputer/expr.forms", laid_transputer_expr_forms)] }
def FoldAgainSaid : Prop := foldAgainRow.holds Tryd.pinned (OpenSpec.ofChange foldAgainSpec)

/-- ITS FALSE NEIGHBOUR: 'it returns false'. Refute it at one input. -/
def foldAgainWrong : ChangeSpec := { name := "foldAgain", fn := fun _ => fun
  | [d1, d2] => { results := [.lit (.bool false)], args := [d1, d2] }
  | _ => none }
def FoldAgainWrongFalsely : Prop := foldAgainRow.holds Tryd.pinned (OpenSpec.ofChange foldAgainWrong)

/-- 'transputerlaw14.FoldLaws': WHATEVER THE INPUT: true; the input reads as it did. -/
def foldLawsSpec : ChangeSpec := { name := "foldLaws", fn := fun _ => fun
  | [d1, d2] => { results := [.lit (.bool true)], args := [d1, d2] }
  | _ => none }
def foldLawsRow : OpenClaim := { program := "ytimbiobonigdmaadoor", sum := "4bb9d614899498763b5fb9338f56985386a38d561f7dcc3c0093cf681d42653e", func := "transputer/transputerlaw14.FoldLaws", spec := "foldLaws", unfollowed := true, recurses := true, named := ["transputer/expr.forms"], apart := false, laid := [("transputer/expr.forms", laid_transputer_expr_forms)] }
def FoldLawsSaid : Prop := foldLawsRow.holds Tryd.pinned (OpenSpec.ofChange foldLawsSpec)

/-- ITS FALSE NEIGHBOUR: 'it returns false'. Refute it at one input. -/
def foldLawsWrong : ChangeSpec := { name := "foldLaws", fn := fun _ => fun
  | [d1, d2] => { results := [.lit (.bool false)], args := [d1, d2] }
  | _ => none }
def FoldLawsWrongFalsely : Prop := foldLawsRow.holds Tryd.pinned (OpenSpec.ofChange foldLawsWrong)

/-- 'transputerlaw14.FoldChain': WHATEVER THE INPUT: true; the input reads as it did. -/
def foldChainSpec : ChangeSpec := { name := "foldChain", fn := fun _ => fun
  | [d1, d2] => { results := [.lit (.bool true)], args := [d1, d2] }
  | _ => none }
def foldChainRow : OpenClaim := { program := "ytimbiobonigdmaadoor", sum := "4bb9d614899498763b5fb9338f56985386a38d561f7dcc3c0093cf681d42653e", func := "transputer/transputerlaw14.FoldChain", spec := "foldChain", unfollowed := true, recurses := true, named := ["transputer/expr.forms"], apart := false, laid := [("transputer/expr.forms", laid_transputer_expr_forms)] }
def FoldChainSaid : Prop := foldChainRow.holds Tryd.pinned (OpenSpec.ofChange foldChainSpec)

/-- ITS FALSE NEIGHBOUR: 'it returns false'. Refute it at one input. -/
def foldChainWrong : ChangeSpec := { name := "foldChain", fn := fun _ => fun
  | [d1, d2] => { results := [.lit (.bool false)], args := [d1, d2] }
  | _ => none }
def FoldChainWrongFalsely : Prop := foldChainRow.holds Tryd.pinned (OpenSpec.ofChange foldChainWrong)

/-- 'transputerlaw14.FoldShadows': WHATEVER THE INPUT: true; the input reads as it did. -/
def foldShadowsSpec : ChangeSpec := { name := "foldShadows", fn := fun _ => fun
  | [d1, d2, d3, d4] => { results := [.lit (.bool true)], args := [d1, d2, d3, d4] }
  | _ => none }
def foldShadowsRow : OpenClaim := { program := "ytimbiobonigdmaadoor", sum := "4bb9d614899498763b5fb9338f56985386a38d561f7dcc3c0093cf681d42653e", func := "transputer/transputerlaw14.FoldShadows", spec := "foldShadows", unfollowed := true, recurses := true, named := ["transputer/expr.forms"], apart := false, laid := [("transputer/expr.forms", laid_transputer_expr_forms)] }
def FoldShadowsSaid : Prop := foldShadowsRow.holds Tryd.pinned (OpenSpec.ofChange foldShadowsSpec)

/-- ITS FALSE NEIGHBOUR: 'it returns false'. Refute it at one input. -/
def foldShadowsWrong : ChangeSpec := { name := "foldShadows", fn := fun _ => fun
  | [d1, d2, d3, d4] => { results := [.lit (.bool false)], args := [d1, d2, d3, d4] }
  | _ => none }
def FoldShadowsWrongFalsely : Prop := foldShadowsRow.holds Tryd.pinned (OpenSpec.ofChange foldShadowsWrong)

/- THE SECOND FORM. 'bulk': how many values and letters a reading holds, each counted each time it is reached (what is shared counts as often as it is met; a slice's spare places count too). A statement '..UptoSaid' is the law's where the arguments, and the package variables that the reading takes, are together of bulk at most 1048576: NARROWER than '..Said'. Prove '..Said' where nothing that the law and all that it calls make is longer than what came in: it says more and counts as full. Else prove '..UptoSaid'. A law counts once. -/
mutual
def uptoBulk {H : Type} : DataW H → Nat
  | .lit (.string bytes) => bytes.length + 1
  | .lit _ => 1
  | .nil => 1
  | .ptr d => uptoBulk d + 1
  | .slice elems spare => uptoBulkAll elems + uptoBulkAll spare + 1
  | .agg parts => uptoBulkAll parts + 1
  | .iface _ d => uptoBulk d + 1
  | .map entries => uptoBulkEntries entries + 1
  | .held _ => 1
def uptoBulkAll {H : Type} : List (DataW H) → Nat
  | [] => 0
  | d :: r => uptoBulk d + uptoBulkAll r
def uptoBulkEntries {H : Type} : List (Lit × DataW H) → Nat
  | [] => 0
  | x :: r => uptoBulkEntry x + uptoBulkEntries r
def uptoBulkEntry {H : Type} : Lit × DataW H → Nat
  | (.string bytes, d) => bytes.length + uptoBulk d + 1
  | (_, d) => uptoBulk d + 1
 end
def uptoSmall : (H : Type) → List (DataW H) → Bool := fun _ ds => decide (uptoBulkAll ds ≤ 1048576)
def OpenSpec.upto (s : _root_.Go.ChangeSpec) : _root_.Go.OpenSpec := { _root_.Go.OpenSpec.ofChange s with cond := some uptoSmall }

/-- 'transputerlaw14.FoldApply', WHERE WHAT IT READS IS OF BULK AT MOST 1048576: true; the input reads as it did. -/
def foldApplyUptoRow : OpenClaim := { program := "ytimbiobonigdmaadoor", sum := "4bb9d614899498763b5fb9338f56985386a38d561f7dcc3c0093cf681d42653e", func := "transputer/transputerlaw14.FoldApply", spec := "foldApply", unfollowed := true, recurses := true, named := ["transputer/expr.forms"], apart := false, laid := [("transputer/expr.forms", laid_transputer_expr_forms)], narrowed := true }
def FoldApplyUptoSaid : Prop := foldApplyUptoRow.holds Tryd.pinned (OpenSpec.upto foldApplySpec)

/-- 'transputerlaw14.FoldKeeps', WHERE WHAT IT READS IS OF BULK AT MOST 1048576: true; the input reads as it did. -/
def foldKeepsUptoRow : OpenClaim := { program := "ytimbiobonigdmaadoor", sum := "4bb9d614899498763b5fb9338f56985386a38d561f7dcc3c0093cf681d42653e", func := "transputer/transputerlaw14.FoldKeeps", spec := "foldKeeps", unfollowed := true, recurses := true, named := ["transputer/expr.forms"], loops := true, apart := false, laid := [("transputer/expr.forms", laid_transputer_expr_forms)], narrowed := true }
def FoldKeepsUptoSaid : Prop := foldKeepsUptoRow.holds Tryd.pinned (OpenSpec.upto foldKeepsSpec)

/-- 'transputerlaw14.FoldAgain', WHERE WHAT IT READS IS OF BULK AT MOST 1048576: true; the input reads as it did. -/
def foldAgainUptoRow : OpenClaim := { program := "ytimbiobonigdmaadoor", sum := "4bb9d614899498763b5fb9338f56985386a38d561f7dcc3c0093cf681d42653e", func := "transputer/transputerlaw14.FoldAgain", spec := "foldAgain", unfollowed := true, recurses := true, named := ["transputer/expr.forms"], loops := true, apart := false, laid := [("transputer/expr.forms", laid_transputer_expr_forms)], narrowed := true }
def FoldAgainUptoSaid : Prop := foldAgainUptoRow.holds Tryd.pinned (OpenSpec.upto foldAgainSpec)

/-- 'transputerlaw14.FoldLaws', WHERE WHAT IT READS IS OF BULK AT MOST 1048576: true; the input reads as it did. -/
def foldLawsUptoRow : OpenClaim := { program := "ytimbiobonigdmaadoor", sum := "4bb9d614899498763b5fb9338f56985386a38d561f7dcc3c0093cf681d42653e", func := "transputer/transputerlaw14.FoldLaws", spec := "foldLaws", unfollowed := true, recurses := true, named := ["transputer/expr.forms"], apart := false, laid := [("transputer/expr.forms", laid_transputer_expr_forms)], narrowed := true }
def FoldLawsUptoSaid : Prop := foldLawsUptoRow.holds Tryd.pinned (OpenSpec.upto foldLawsSpec)

/-- 'transputerlaw14.FoldChain', WHERE WHAT IT READS IS OF BULK AT MOST 1048576: true; the input reads as it did. -/
def foldChainUptoRow : OpenClaim := { program := "ytimbiobonigdmaadoor", sum := "4bb9d614899498763b5fb9338f56985386a38d561f7dcc3c0093cf681d42653e", func := "transputer/transputerlaw14.FoldChain", spec := "foldChain", unfollowed := true, recurses := true, named := ["transputer/expr.forms"], apart := false, laid := [("transputer/expr.forms", laid_transputer_expr_forms)], narrowed := true }
def FoldChainUptoSaid : Prop := foldChainUptoRow.holds Tryd.pinned (OpenSpec.upto foldChainSpec)

/-- 'transputerlaw14.FoldShadows', WHERE WHAT IT READS IS OF BULK AT MOST 1048576: true; the input reads as it did. -/
def foldShadowsUptoRow : OpenClaim := { program := "ytimbiobonigdmaadoor", sum := "4bb9d614899498763b5fb9338f56985386a38d561f7dcc3c0093cf681d42653e", func := "transputer/transputerlaw14.FoldShadows", spec := "foldShadows", unfollowed := true, recurses := true, named := ["transputer/expr.forms"], apart := false, laid := [("transputer/expr.forms", laid_transputer_expr_forms)], narrowed := true }
def FoldShadowsUptoSaid : Prop := foldShadowsUptoRow.holds Tryd.pinned (OpenSpec.upto foldShadowsSpec)

end Rows
end Go.Proofs.YtimbiobonigdmaaDoor
