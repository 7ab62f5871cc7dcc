/- What the words of each operation are that the program counts. -/
import Derived.Test.YtjdjkdgdbdenpaaDoorM01
set_option linter.unusedVariables false
set_option linter.unusedSimpArgs false
namespace Go.Proofs.YtjdjkdgdbdenpaaDoor
open Go Go.RowKit

/-- The codes that the program's table of effects names. -/
def effs : List Int := [30, 34, 41, 66, 89, 3, 43, 57, 84, 1, 6, 18, 27, 50, 52, 60, 73, 29, 63, 13, 14, 15, 33, 59, 2, 4, 5, 8, 9, 10, 12, 19, 31, 44, 48, 51, 58, 64, 65, 70, 71, 72, 75, 76, 77, 82, 83, 86, 0, 25, 7, 11, 74, 22, 46, 47, 56, 26, 49, 53, 54, 55, 79]
theorem eff_rest_all : ((List.range 90).all fun (k : Nat) => effs.contains (k : Int) || (tk 15 (k : Int) == 0 && lv 15 (k : Int) == 0)) = true := by decide +kernel
theorem eff_rest {a : Int} (h0 : 0 ≤ a) (h1 : a < 90) (hs : (effs.all fun k => !(a == k)) = true) : tk 15 a = 0 ∧ lv 15 a = 0 := by
  have h := List.all_eq_true.1 eff_rest_all a.toNat (by rw [List.mem_range]; omega)
  rw [show ((a.toNat : Nat) : Int) = a by omega] at h
  have hc : effs.contains a = false := by
    rw [Bool.eq_false_iff]
    intro hc
    have := List.all_eq_true.1 hs a (by simpa using hc)
    simp at this
  rw [hc, Bool.false_or] at h
  simpa using h
theorem ret_two {a b c d : Int} (h : a = b) (h' : c = d) : Ending.returned (.tuple #[.int .i64 a, .int .i64 c]) = .returned (.tuple #[.int .i64 b, .int .i64 d]) := by rw [h, h']
set_option maxRecDepth 100000 in
set_option maxHeartbeats 4000000 in
theorem effect_any (a : Int) (h0 : 0 ≤ a) (h1 : a < 90) (w : World) : Calls Tryd.prog 71 #[.int .i32 a] w fun e w' => e = .returned (.tuple #[.int .i64 (tk 15 a), .int .i64 (lv 15 a)]) ∧ w = w' := by
  go_enter Tryd.func71, Tryd.ntmps71
  go_wp2
  all_goals
    go_ret2
    first
    | (have he := eq_of_beq ‹(a == _) = true›
       subst he
       exact ⟨rfl, rfl⟩)
    | (obtain ⟨e1, e2⟩ := eff_rest h0 h1 (by simp only [effs, List.all_cons, List.all_nil, *, Bool.not_false, Bool.and_self])
       exact ⟨ret_two e1.symm e2.symm, rfl⟩)
end Go.Proofs.YtjdjkdgdbdenpaaDoor
