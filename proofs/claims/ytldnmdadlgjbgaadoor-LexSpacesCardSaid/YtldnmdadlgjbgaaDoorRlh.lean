/- The reference: the token with which a text begins. -/
import Derived.Test.YtldnmdadlgjbgaaDoorRlg
set_option linter.unusedVariables false
set_option linter.unusedSimpArgs false
namespace Go.Proofs.YtldnmdadlgjbgaaDoor
open Go Go.RowKit L8

def TR (o : Option (Nat × Bs × Int × Nat)) (e : Ending) : Prop := match o with
  | some (k, tx, v, n) => e = .returned (.tuple #[.agg #[.int .u8 (k : Int), .int .i64 0, .string (strOf tx), .int .i32 v], .int .i64 (n : Int)])
  | none => e = .returned (.tuple #[.agg #[.int .u8 0, .int .i64 0, .string ⟨#[]⟩, .int .i32 0], .int .i64 0])
theorem run_is {c : UInt8} {r : Bs} {m : Nat} (h1 : 1 ≤ m) (h2 : m ≤ (c :: r).length) (h : ∀ j, 1 ≤ j → j < m → wordB ((c :: r).getD j 0) = true) (hx : m = (c :: r).length ∨ wordB ((c :: r).getD m 0) = false) : 1 + wrun r = m := by
  obtain ⟨m, rfl⟩ : ∃ k, m = k + 1 := ⟨m - 1, by omega⟩
  simp only [List.length_cons] at h2 hx
  have ha : (r.take m).all wordB = true := by
    rw [List.all_eq_true]
    intro d hd
    obtain ⟨i, hi, e⟩ := List.getElem_of_mem hd
    rw [List.length_take] at hi
    have := h (i + 1) (by omega) (by omega)
    rw [List.getD_cons_succ] at this
    rw [← e, List.getElem_take]
    have e2 : r.getD i 0 = r[i] := by simp [show i < r.length by omega]
    rw [← e2]; exact this
  have hb : ∀ d, (r.drop m).head? = some d → wordB d = false := by
    intro d hd
    rw [List.head?_drop] at hd
    have hm : m < r.length := by
      have := (List.getElem?_eq_some_iff.1 hd).1
      exact this
    rcases hx with hx | hx
    · omega
    · rw [List.getD_cons_succ] at hx
      have e2 : r.getD m 0 = d := by simp [hd]
      rw [← e2]; exact hx
  have h3 := wrun_of ha hb
  rw [List.take_append_drop, List.length_take] at h3
  omega
theorem tkeep {w X Y : World} {cs : Array Value} (h : Below w.heap.size w X ∧ BoxS X w.heap.size 26 cs) (b : Below X.heap.size X Y) : Below w.heap.size w Y ∧ BoxS Y w.heap.size 26 cs := ⟨blw h.1 b, h.2.below b⟩
end Go.Proofs.YtldnmdadlgjbgaaDoor
