/- The laws: FoldApply. -/
import Derived.Test.YtimbiobonigdmaaDoorRap
import Derived.Test.YtimbiobonigdmaaDoorM16
set_option linter.unusedVariables false
set_option linter.unusedSimpArgs false
namespace Go.Proofs.YtimbiobonigdmaaDoor
open Go Go.RowKit L8 L10 L14

set_option maxRecDepth 100000 in
set_option maxHeartbeats 4000000 in
theorem walkFoldApply (o : Nat) (a b : Int) (ha : inW a) (hb : inW b) (w : World) (T : T10 w) : Calls Tryd.prog 3 #[.int .u8 (o : Int), .int .i32 a, .int .i32 b] w fun e w' => e = .returned (.bool true) ∧ Below w.heap.size w w' := by
  have C1 := Lib.hid (Apply_any o a b ha hb w)
  have C2 := Lib.hid (RApply_any o a b ha hb)
  have J0 := Lib.hid (S14.new T)
  unfold ApR apR at C1 C2
  generalize apO o a b = x at *
  generalize x.getD 0 = v at *
  generalize x.isSome = z at *
  clear T ha hb
  go_enter Tryd.func3, Tryd.ntmps3
  cases z <;>
    (go_wp2_with (first
      | (go_at_call 9; (with_reducible refine (C1.out).mono ?_); rintro e1 w1 ⟨rfl, b1⟩; have J1 := Lib.hid (S14.step J0 b1); clear b1)
      | (go_at_call 10; (with_reducible refine (C2.out _).mono ?_); rintro e1 w2 ⟨rfl, b1⟩; have J2 := Lib.hid (S14.step J1 b1); clear b1)
      | (go_at_call 11; (with_reducible refine (awake_any _ J2.out.t).mono ?_); rintro e1 w3 ⟨rfl, b1⟩; have J3 := Lib.hid (S14.step J2 b1); clear b1))
     go_ret
     exact ⟨rfl, J3.out.b⟩)
end Go.Proofs.YtimbiobonigdmaaDoor
