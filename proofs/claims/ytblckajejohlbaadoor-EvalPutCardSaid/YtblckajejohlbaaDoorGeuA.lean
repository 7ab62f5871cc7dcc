/- EvalPut's walk, as the card calls it. -/
import Derived.Test.YtblckajejohlbaaDoorEpu
import Derived.Test.YtblckajejohlbaaDoorM10
set_option linter.unusedVariables false
set_option linter.unusedSimpArgs false
set_option linter.unusedVariables false
set_option linter.unusedSimpArgs false
namespace Go.Proofs.YtblckajejohlbaaDoor
open Go Go.RowKit L8 L22 L17

theorem rowEvalPut (a0 : Option Addr) (len0 cap0 : Nat) (z0 : St) (a1 : Int) (k1 : (Lit.int .u8 a1).wf = true) (a2 : Int) (k2 : (Lit.int .u8 a2).wf = true) (a3 : Int) (k3 : (Lit.int .i32 a3).wf = true) (w : World) (w0 : z0.length = len0 ∧ StR w a0 cap0 z0 ∧ StM z0) (h : T17 w) : Calls Tryd.prog 8 #[.slice a0 len0 cap0, .int .u8 a1, .int .u8 a2, .int .i32 a3] w fun e w' => e = .returned (.bool true) ∧ Below w.heap.size w w' :=
  walkEvalPut z0 a0 len0 cap0 w0.1 a1 a2 a3 (u8_wfX k1) (u8_wfX k2) (i32_wfX k3) w w0.2.1 w0.2.2 h
end Go.Proofs.YtblckajejohlbaaDoor
