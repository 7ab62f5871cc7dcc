/- EvalStores' walk, as the card calls it. -/
import Derived.Test.YtblckajejohlbaaDoorEst
import Derived.Test.YtblckajejohlbaaDoorM10
set_option linter.unusedVariables false
set_option linter.unusedSimpArgs false
set_option linter.unusedVariables false
set_option linter.unusedSimpArgs false
namespace Go.Proofs.YtblckajejohlbaaDoor
open Go Go.RowKit L8 L22 L17

theorem rowEvalStores (a0 : Option Addr) (len0 cap0 : Nat) (z0 : List Vr) (a1 : Option Addr) (len1 cap1 : Nat) (z1 : St) (a2 : Option Addr) (len2 cap2 : Nat) (z2 : St) (w : World) (w0 : z0.length = len0 ∧ VaR w a0 cap0 z0) (w1 : z1.length = len1 ∧ StR w a1 cap1 z1 ∧ StM z1) (w2 : z2.length = len2 ∧ StR w a2 cap2 z2 ∧ StM z2) (h : T17 w) : Calls Tryd.prog 3 #[.slice a0 len0 cap0, .slice a1 len1 cap1, .slice a2 len2 cap2] w fun e w' => e = .returned (.bool true) ∧ Below w.heap.size w w' :=
  walkEvalStores z0 a0 len0 cap0 w0.1 z1 a1 len1 cap1 w1.1 z2 a2 len2 cap2 w2.1 w w0.2 w1.2.1 w1.2.2 w2.2.1 w2.2.2 h
end Go.Proofs.YtblckajejohlbaaDoor
