/- EvalValues' walk, as the card calls it. -/
import Derived.Test.YtblckajejohlbaaDoorM10
set_option linter.unusedVariables false
set_option linter.unusedSimpArgs false
set_option linter.unusedVariables false
set_option linter.unusedSimpArgs false
namespace Go.Proofs.YtblckajejohlbaaDoor
open Go Go.RowKit L8 L22 L17

theorem rowEvalValues (a0 : Option Addr) (len0 cap0 : Nat) (z0 : St) (a1 : Kx) (A1 : Option Addr) (e1 : Nat) (ok : OKk a1) (w : World) (w0 : z0.length = len0 ∧ StR w a0 cap0 z0 ∧ StM z0) (w1 : KrR w A1 e1 a1.l) (h : T17 w) : Calls Tryd.prog 4 #[.slice a0 len0 cap0, .agg (kyC ⟨a1, A1, e1⟩).toArray] w fun e w' => e = .returned (.bool true) ∧ Below w.heap.size w w' :=
  walkEvalValues z0 a0 len0 cap0 w0.1 a1 A1 a1.l.length e1 rfl ok w w0.2.1 w0.2.2 w1 h
end Go.Proofs.YtblckajejohlbaaDoor
