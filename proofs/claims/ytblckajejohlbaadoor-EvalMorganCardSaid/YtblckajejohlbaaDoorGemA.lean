/- EvalMorgan's walk, as the card calls it. -/
import Derived.Test.YtblckajejohlbaaDoorEmo
import Derived.Test.YtblckajejohlbaaDoorM10
set_option linter.unusedVariables false
set_option linter.unusedSimpArgs false
set_option linter.unusedVariables false
set_option linter.unusedSimpArgs false
namespace Go.Proofs.YtblckajejohlbaaDoor
open Go Go.RowKit L8 L22 L17

theorem rowEvalMorgan (a0 : Option Addr) (len0 cap0 : Nat) (z0 : St) (a1 : Kx) (A1 : Option Addr) (e1 : Nat) (ok1 : OKk a1) (a2 : Kx) (A2 : Option Addr) (e2 : Nat) (ok2 : OKk a2) (w : World) (w0 : z0.length = len0 ∧ StR w a0 cap0 z0 ∧ StM z0) (w1 : KrR w A1 e1 a1.l) (w2 : KrR w A2 e2 a2.l) (h : T17 w) : Calls Tryd.prog 9 #[.slice a0 len0 cap0, .agg (kyC ⟨a1, A1, e1⟩).toArray, .agg (kyC ⟨a2, A2, e2⟩).toArray] w fun e w' => e = .returned (.bool true) ∧ Below w.heap.size w w' :=
  walkEvalMorgan z0 a0 len0 cap0 w0.1 a1 A1 a1.l.length e1 rfl ok1 a2 A2 a2.l.length e2 rfl ok2 w w0.2.1 w0.2.2 w1 w2 h
end Go.Proofs.YtblckajejohlbaaDoor
