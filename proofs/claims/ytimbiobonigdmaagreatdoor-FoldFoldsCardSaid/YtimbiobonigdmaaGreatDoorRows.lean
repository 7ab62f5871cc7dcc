/-
  NARROWER THAN 'FOR EVERY INPUT', by the rows' own cells (each row's printed sentence says how): FoldConst: loops, laid · FoldFolds: loops, laid.
  DERIVED. THE GIVEN ROWS OF THIS SEAT. 2 by the template 'for every input the law returns true; each argument reads behind the call as it read before'; 0 by the template 'total and deterministic' (their statements: YtimbiobonigdmaaGreatDoorTotals.lean).
  GIVEN WITH THE SEED: the statements are not yours to turn. If you find one false, say at which input.
  Laid BY PROGRAM, IN A SANDBOX (cutbox-rows.mjs): the forced cells as the released guide's own fill.sh prints them over the translation 1069609192dd8294… (all of the seat's roots in one cut). By AI agents, Wed Nov 11 2026. No macro, syntax, notation, axiom, sorry.
-/
import Derived.Test.YtimbiobonigdmaaGreatDoorChecked
import GoSem.Claim
import GoSem.ClaimJoined
import GoSem.ClaimMapViews
import Derived.JoinedTies
import Derived.KernelRfl
namespace Go.Proofs.YtimbiobonigdmaaGreatDoor
/- THE CELL 'sum', in the pinned program and in every row, IS THE sha256 OF THE DUMP (.gsa) THAT YtimbiobonigdmaaGreatDoorProg.lean LOADS. Nothing in Lean hashes anything: it is a label: what it is worth is what the hold of that sum in a sandbox is worth. -/
noncomputable def Tryz.pinned : Pinned := { name := "ytimbiobonigdmaagreatdoor", sum := "1069609192dd82943a4b9475d0abe0ec12d0f76f023724c9be7ea827a8f5482c", checked := Tryz.checked }
namespace Rows
def none {H : Type} : Left H := { results := [], args := [] }

/- WHAT THE LISTED PACKAGE-LEVEL VARIABLES READ AS WHEN THE CALL BEGINS. Each datum BY PROGRAM (the guide's laid-datum.mjs) off the statement by which the dump's own 'gosem.cut.vars' lays the variable. In a bare row this is a premise. The card (YtimbiobonigdmaaGreatDoorCards.lean) ties it to the program's text. -/
def laid_transputer_expr_forms {H : Type} : DataW H := .agg [.agg [.lit (.int .i32 0), .lit (.int .i32 0), .lit (.int .u8 0), .lit (.int .u8 0), .lit (.int .u8 0), .lit (.int .u8 0), .lit (.bool false), .lit (.int .i64 0)], .agg [.lit (.int .i32 (-2147483648)), .lit (.int .i32 2147483647), .lit (.int .u8 0), .lit (.int .u8 0), .lit (.int .u8 0), .lit (.int .u8 0), .lit (.bool false), .lit (.int .i64 0)], .agg [.lit (.int .i32 0), .lit (.int .i32 255), .lit (.int .u8 0), .lit (.int .u8 0), .lit (.int .u8 0), .lit (.int .u8 0), .lit (.bool false), .lit (.int .i64 0)], .agg [.lit (.int .i32 0), .lit (.int .i32 1), .lit (.int .u8 0), .lit (.int .u8 0), .lit (.int .u8 0), .lit (.int .u8 0), .lit (.bool false), .lit (.int .i64 0)], .agg [.lit (.int .i32 0), .lit (.int .i32 0), .lit (.int .u8 0), .lit (.int .u8 0), .lit (.int .u8 0), .lit (.int .u8 0), .lit (.bool true), .lit (.int .i64 0)], .agg [.lit (.int .i32 0), .lit (.int .i32 0), .lit (.int .u8 0), .lit (.int .u8 0), .lit (.int .u8 0), .lit (.int .u8 0), .lit (.bool true), .lit (.int .i64 1)], .agg [.lit (.int .i32 0), .lit (.int .i32 0), .lit (.int .u8 23), .lit (.int .u8 26), .lit (.int .u8 0), .lit (.int .u8 0), .lit (.bool false), .lit (.int .i64 1)], .agg [.lit (.int .i32 0), .lit (.int .i32 0), .lit (.int .u8 1), .lit (.int .u8 22), .lit (.int .u8 0), .lit (.int .u8 0), .lit (.bool false), .lit (.int .i64 2)], .agg [.lit (.int .i32 0), .lit (.int .i32 0), .lit (.int .u8 0), .lit (.int .u8 0), .lit (.int .u8 1), .lit (.int .u8 3), .lit (.bool false), .lit (.int .i64 1)], .agg [.lit (.int .i32 0), .lit (.int .i32 0), .lit (.int .u8 0), .lit (.int .u8 0), .lit (.int .u8 0), .lit (.int .u8 0), .lit (.bool true), .lit (.int .i64 0)]]

/-- 'transputerlaw14.FoldConst': WHATEVER THE INPUT: true; the input reads as it did. -/
def foldConstSpec : ChangeSpec := { name := "foldConst", fn := fun _ => fun
  | [d1, d2] => { results := [.lit (.bool true)], args := [d1, d2] }
  | _ => none }
def foldConstRow : OpenClaim := { program := "ytimbiobonigdmaagreatdoor", sum := "1069609192dd82943a4b9475d0abe0ec12d0f76f023724c9be7ea827a8f5482c", func := "transputer/transputerlaw14.FoldConst", spec := "foldConst", unfollowed := true, recurses := true, named := ["transputer/expr.forms"], loops := true, apart := false, laid := [("transputer/expr.forms", laid_transputer_expr_forms)] }
def FoldConstSaid : Prop := foldConstRow.holds Tryz.pinned (OpenSpec.ofChange foldConstSpec)

/-- ITS FALSE NEIGHBOUR: 'it returns false'. Refute it at one input. -/
def foldConstWrong : ChangeSpec := { name := "foldConst", fn := fun _ => fun
  | [d1, d2] => { results := [.lit (.bool false)], args := [d1, d2] }
  | _ => none }
def FoldConstWrongFalsely : Prop := foldConstRow.holds Tryz.pinned (OpenSpec.ofChange foldConstWrong)

/-- 'transputerlaw14.FoldFolds': WHATEVER THE INPUT: true; the input reads as it did. -/
def foldFoldsSpec : ChangeSpec := { name := "foldFolds", fn := fun _ => fun
  | [d1, d2] => { results := [.lit (.bool true)], args := [d1, d2] }
  | _ => none }
def foldFoldsRow : OpenClaim := { program := "ytimbiobonigdmaagreatdoor", sum := "1069609192dd82943a4b9475d0abe0ec12d0f76f023724c9be7ea827a8f5482c", func := "transputer/transputerlaw14.FoldFolds", spec := "foldFolds", unfollowed := true, recurses := true, named := ["transputer/expr.forms"], loops := true, apart := false, laid := [("transputer/expr.forms", laid_transputer_expr_forms)] }
def FoldFoldsSaid : Prop := foldFoldsRow.holds Tryz.pinned (OpenSpec.ofChange foldFoldsSpec)

/-- ITS FALSE NEIGHBOUR: 'it returns false'. Refute it at one input. -/
def foldFoldsWrong : ChangeSpec := { name := "foldFolds", fn := fun _ => fun
  | [d1, d2] => { results := [.lit (.bool false)], args := [d1, d2] }
  | _ => none }
def FoldFoldsWrongFalsely : Prop := foldFoldsRow.holds Tryz.pinned (OpenSpec.ofChange foldFoldsWrong)

/- THE SECOND FORM. 'bulk': how many values and letters a reading holds, each counted each time it is reached (what is shared counts as often as it is met; a slice's spare places count too). A statement '..UptoSaid' is the law's where the arguments, and the package variables that the reading takes, are together of bulk at most 1048576: NARROWER than '..Said'. Prove '..Said' where nothing that the law and all that it calls make is longer than what came in: it says more and counts as full. Else prove '..UptoSaid'. A law counts once. -/
mutual
def uptoBulk {H : Type} : DataW H → Nat
  | .lit (.string bytes) => bytes.length + 1
  | .lit _ => 1
  | .nil => 1
  | .ptr d => uptoBulk d + 1
  | .slice elems spare => uptoBulkAll elems + uptoBulkAll spare + 1
  | .agg parts => uptoBulkAll parts + 1
  | .iface _ d => uptoBulk d + 1
  | .map entries => uptoBulkEntries entries + 1
  | .held _ => 1
def uptoBulkAll {H : Type} : List (DataW H) → Nat
  | [] => 0
  | d :: r => uptoBulk d + uptoBulkAll r
def uptoBulkEntries {H : Type} : List (Lit × DataW H) → Nat
  | [] => 0
  | x :: r => uptoBulkEntry x + uptoBulkEntries r
def uptoBulkEntry {H : Type} : Lit × DataW H → Nat
  | (.string bytes, d) => bytes.length + uptoBulk d + 1
  | (_, d) => uptoBulk d + 1
 end
def uptoSmall : (H : Type) → List (DataW H) → Bool := fun _ ds => decide (uptoBulkAll ds ≤ 1048576)
def OpenSpec.upto (s : _root_.Go.ChangeSpec) : _root_.Go.OpenSpec := { _root_.Go.OpenSpec.ofChange s with cond := some uptoSmall }

/-- 'transputerlaw14.FoldConst', WHERE WHAT IT READS IS OF BULK AT MOST 1048576: true; the input reads as it did. -/
def foldConstUptoRow : OpenClaim := { program := "ytimbiobonigdmaagreatdoor", sum := "1069609192dd82943a4b9475d0abe0ec12d0f76f023724c9be7ea827a8f5482c", func := "transputer/transputerlaw14.FoldConst", spec := "foldConst", unfollowed := true, recurses := true, named := ["transputer/expr.forms"], loops := true, apart := false, laid := [("transputer/expr.forms", laid_transputer_expr_forms)], narrowed := true }
def FoldConstUptoSaid : Prop := foldConstUptoRow.holds Tryz.pinned (OpenSpec.upto foldConstSpec)

/-- 'transputerlaw14.FoldFolds', WHERE WHAT IT READS IS OF BULK AT MOST 1048576: true; the input reads as it did. -/
def foldFoldsUptoRow : OpenClaim := { program := "ytimbiobonigdmaagreatdoor", sum := "1069609192dd82943a4b9475d0abe0ec12d0f76f023724c9be7ea827a8f5482c", func := "transputer/transputerlaw14.FoldFolds", spec := "foldFolds", unfollowed := true, recurses := true, named := ["transputer/expr.forms"], loops := true, apart := false, laid := [("transputer/expr.forms", laid_transputer_expr_forms)], narrowed := true }
def FoldFoldsUptoSaid : Prop := foldFoldsUptoRow.holds Tryz.pinned (OpenSpec.upto foldFoldsSpec)

end Rows
end Go.Proofs.YtimbiobonigdmaaGreatDoor
