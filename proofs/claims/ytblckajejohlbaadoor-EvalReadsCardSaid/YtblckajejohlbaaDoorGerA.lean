/- EvalReads' walk, as the card calls it. -/
import Derived.Test.YtblckajejohlbaaDoorErd
import Derived.Test.YtblckajejohlbaaDoorM10
set_option linter.unusedVariables false
set_option linter.unusedSimpArgs false
set_option linter.unusedVariables false
set_option linter.unusedSimpArgs false
namespace Go.Proofs.YtblckajejohlbaaDoor
open Go Go.RowKit L8 L22 L17

theorem rowEvalReads (a0 : Option Addr) (len0 cap0 : Nat) (z0 : St) (a1 : Kx) (A1 : Option Addr) (e1 : Nat) (ok : OKk a1) (a2 : Int) (k2 : (Lit.int .u8 a2).wf = true) (a3 : Option Addr) (len3 cap3 : Nat) (z3 : List Int) (w : World) (w0 : z0.length = len0 ∧ StR w a0 cap0 z0 ∧ StM z0) (w1 : KrR w A1 e1 a1.l) (w3 : z3.length = len3 ∧ WoR w a3 cap3 z3) (h : T17 w) : Calls Tryd.prog 6 #[.slice a0 len0 cap0, .agg (kyC ⟨a1, A1, e1⟩).toArray, .int .u8 a2, .slice a3 len3 cap3] w fun e w' => e = .returned (.bool true) ∧ Below w.heap.size w w' :=
  walkEvalReads z0 a0 len0 cap0 w0.1 a1 A1 a1.l.length e1 rfl ok a2 (u8_wfX k2) z3 a3 len3 cap3 w3.1 w w0.2.1 w0.2.2 w1 w3.2 h
end Go.Proofs.YtblckajejohlbaaDoor
