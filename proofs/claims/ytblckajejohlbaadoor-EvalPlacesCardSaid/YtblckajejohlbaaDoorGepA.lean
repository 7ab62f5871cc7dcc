/- EvalPlaces' walk, as the card calls it; places that came in. -/
import Derived.Test.YtblckajejohlbaaDoorEpx
import Derived.Test.YtblckajejohlbaaDoorM10
set_option linter.unusedVariables false
set_option linter.unusedSimpArgs false
set_option linter.unusedVariables false
set_option linter.unusedSimpArgs false
namespace Go.Proofs.YtblckajejohlbaaDoor
open Go Go.RowKit Go.ChangeShapes Go.WideShapes Go.Deep Go.ChangeAt L8 L22 L17

section
variable {H : Type} {enc : TypeId × Value → H} {w : World}
set_option maxRecDepth 100000 in
theorem open_place {fuel : Nat} {cs : List Value} {x : DataW H × List MemPlace} (h : DataW.trod enc Tryd.prog w 0 (fun _ => true) true fuel 50 cs = some x) : ∃ (v : Int) (A : Option Addr) (n c : Nat) (l : List Kx), cs = [.int .i64 v, .slice A n c] ∧ (-9223372036854775808 ≤ v ∧ v ≤ 9223372036854775807) ∧ l.length = n ∧ KrR w A c l := by
  obtain ⟨xs, n, hn, hx, hl, hlen, hf⟩ := DataW.trod_struct Tryd.underlying50 h
  have kl : Tryd.prog.cellsOf 50 = 2 := by kernel_rfl
  have k1 : Tryd.prog.cellsOf 3 = 1 := by kernel_rfl
  have k2 : Tryd.prog.cellsOf 30 = 1 := by kernel_rfl
  rw [kl] at hl
  match cs, hl with
  | [c0, c1], _ =>
    match xs, hlen with
    | [y0, y1], _ =>
      have f0 := hf 0 _ rfl
      have f1 := hf 1 _ rfl
      simp [k1, k2] at f0 f1
      obtain ⟨p, e0, _, w0⟩ := DataW.trod_int Tryd.underlying3 f0
      injection e0 with e0
      subst e0
      have hS : ∃ (A : Option Addr) (len cap : Nat), c1 = .slice A len cap := by
        rcases DataW.trod_slice Tryd.underlying30 f1 with ⟨e, _⟩ | ⟨ad, len, cap, _, _, _, _, e, _⟩
        · injection e with e; exact ⟨_, _, _, e⟩
        · injection e with e; exact ⟨_, _, _, e⟩
      obtain ⟨A, len, cap, rfl⟩ := hS
      obtain ⟨l, hll, R⟩ := (open_kx _).2 A len cap _ f1
      exact ⟨p, A, len, cap, l, rfl, i64_wf w0, hll, R⟩
end
theorem rowEvalPlaces (a0 : Option Addr) (len0 cap0 : Nat) (z0 : St) (v1 : Int) (a1 : Option Addr) (n1 c1 : Nat) (z1 : List Kx) (r1 : -9223372036854775808 ≤ v1 ∧ v1 ≤ 9223372036854775807) (a2 : Int) (k2 : (Lit.int .i64 a2).wf = true) (a3 : Int) (k3 : (Lit.int .i64 a3).wf = true) (a4 : Int) (k4 : (Lit.int .i32 a4).wf = true) (w : World) (w0 : z0.length = len0 ∧ StR w a0 cap0 z0 ∧ StM z0) (w1 : z1.length = n1 ∧ KrR w a1 c1 z1) (h : T17 w) : Calls Tryd.prog 5 #[.slice a0 len0 cap0, .agg #[.int .i64 v1, .slice a1 n1 c1], .int .i64 a2, .int .i64 a3, .int .i32 a4] w fun e w' => e = .returned (.bool true) ∧ Below w.heap.size w w' :=
  walkEvalPlaces z0 a0 len0 cap0 w0.1 v1 z1 a1 n1 c1 w1.1 a2 a3 a4 (i32_wfX k4) w w0.2.1 w0.2.2 w1.2 h
end Go.Proofs.YtblckajejohlbaaDoor
