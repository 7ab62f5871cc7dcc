/- Rows: by the program. -/
import Derived.Test.YtkhmpmjonkmbeaaDoorGrp
set_option linter.unusedVariables false
set_option linter.unusedSimpArgs false
namespace Go.Proofs.YtkhmpmjonkmbeaaDoor
open Go Go.RowKit L7

theorem rows_long {s : Bs} (h : 65536 < s.length) : rows s = ([], 0, 3) := by unfold rows; rw [if_pos h]
set_option maxRecDepth 100000 in
set_option maxHeartbeats 4000000 in
theorem Rows_any (s : Bs) (hl : s.length ≤ maxLen) (w : World) (hm : MaxIs w) : Calls Tryd.prog 10 #[.string (strOf s)] w (GivesR w s) := by
  have hsz := size_strOf s
  unfold maxLen at hl
  by_cases h : 65536 < s.length
  · have HE := Lib.hid (givesR_err (w := w) (rows_long h) (b0 w))
    have q1 : (65536 : Int) < ((strOf s).size : Int) := by omega
    go_enter Tryd.func10, Tryd.ntmps10
    go_wp2
    refine bodyPost_ret (v := .tuple #[.slice none 0 0, .int .i64 0, .int .i64 3]) (by simp [results, Tryd.results10, go_sem]) rfl ?_
    exact HE.out
  · have q1 : ¬ (65536 : Int) < ((strOf s).size : Int) := by omega
    have CF := Lib.hid (foreign_any s (by omega) w)
    have hf := foreign_bad s 1
    cases hb : badLine (lnsOf s) with
    | some k =>
      rw [hb] at hf
      dsimp only at hf
      have HE := Lib.hid (fun (w' : World) (b : Below w.heap.size w w') => givesR_err (rows_bad (s := s) (by omega) hb) b)
      have e1 : ((foreignL s 1 : Nat) : Int) = (k : Int) + 1 := by rw [hf, Int.natCast_add]; exact Int.add_comm _ _
      rw [e1] at CF
      have q2 : (0 : Int) < (k : Int) + 1 := by omega
      clear hf hb e1
      go_enter Tryd.func10, Tryd.ntmps10
      go_wp2_with (go_at_call 29; (with_reducible refine (CF.out).mono ?_); rintro e w1 ⟨rfl, rfl⟩)
      refine bodyPost_ret (v := .tuple #[.slice none 0 0, .int .i64 ((k : Int) + 1), .int .i64 5]) (by simp [results, Tryd.results10, go_sem]) rfl ?_
      exact HE.out _ (b0 _)
    | none =>
      rw [hb] at hf
      dsimp only at hf
      rw [hf] at CF
      have CG := Lib.hid (grouped_any s (by omega) hb w hm)
      clear hf hb
      rw [show ((0 : Nat) : Int) = 0 from rfl] at CF
      go_enter Tryd.func10, Tryd.ntmps10
      go_wp2_with (first
        | (go_at_call 29; (with_reducible refine (CF.out).mono ?_); rintro e w1 ⟨rfl, rfl⟩)
        | (go_at_call 30; (with_reducible refine (CG.out).mono ?_); rintro e w1 ⟨A, c, rfl, h1, h2⟩; have HE := Lib.hid (show GivesR w s _ w1 from ⟨A, c, rfl, h1, h2⟩); clear h1 h2))
      refine bodyPost_ret (v := .tuple #[.slice A (rows s).1.length c, .int .i64 (rows s).2.1, .int .i64 (rows s).2.2]) (by simp [results, Tryd.results10, go_sem]) rfl ?_
      exact HE.out
end Go.Proofs.YtkhmpmjonkmbeaaDoor
