/- EvalKinds' walk, as the card calls it. -/
import Derived.Test.YtblckajejohlbaaDoorEkd
import Derived.Test.YtblckajejohlbaaDoorM10
set_option linter.unusedVariables false
set_option linter.unusedSimpArgs false
set_option linter.unusedVariables false
set_option linter.unusedSimpArgs false
namespace Go.Proofs.YtblckajejohlbaaDoor
open Go Go.RowKit L8 L22 L17

theorem rowEvalKinds (a0 : Option Addr) (len0 cap0 : Nat) (z0 : List Vr) (a1 : Option Addr) (len1 cap1 : Nat) (z1 : List Int) (a2 : Kx) (A2 : Option Addr) (e2 : Nat) (ok : OKk a2) (w : World) (w0 : z0.length = len0 ∧ VaR w a0 cap0 z0) (w1 : z1.length = len1 ∧ WoR w a1 cap1 z1) (w2 : KrR w A2 e2 a2.l) (h : T17 w) : Calls Tryd.prog 10 #[.slice a0 len0 cap0, .slice a1 len1 cap1, .agg (kyC ⟨a2, A2, e2⟩).toArray] w fun e w' => e = .returned (.bool true) ∧ Below w.heap.size w w' :=
  walkEvalKinds z0 a0 len0 cap0 w0.1 z1 a1 len1 cap1 w1.1 a2 A2 a2.l.length e2 rfl ok w w0.2 w1.2 w2 h
end Go.Proofs.YtblckajejohlbaaDoor
