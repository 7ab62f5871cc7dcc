/- The chapter's examples hold. -/
import Derived.Test.YtikfbooihacjfaaNorm
namespace Go.Proofs.Ytikfbooihacjfaa
open Go Go.RowKit

theorem blw {w w1 w2 : World} (h1 : Below w.heap.size w w1) (h2 : Below w1.heap.size w1 w2) : Below w.heap.size w w2 := h1.trans (h2.mono h1.size)
theorem at_ {P : Program} {f : FuncId} {args : Array Value} {w : World} {R : World → Prop} {x y : Ending} (h : Calls P f args w fun e w' => e = x ∧ R w') (hxy : x = y) : Calls P f args w fun e w' => e = y ∧ R w' := by subst hxy; exact h
theorem wm : isW (-1) := by unfold isW; omega
theorem wl : isW (-2147483648) := by unfold isW; omega
theorem wh : isW 2147483647 := by unfold isW; omega
theorem w1 : isW 1 := by unfold isW; omega
theorem nrmE_one : nrmE (DW 1 0) = .returned (.tuple #[.int .i32 (-2147483648), .int .i32 0, .int .i32 31]) := by
  have h : nrm (DW 1 0) = 31 := by decide +kernel
  unfold nrmE
  rw [h]
  exact ret_iii (by decide +kernel) (by decide +kernel) rfl
set_option maxRecDepth 100000 in
set_option maxHeartbeats 2000000 in
theorem awake_any (w : World) : Calls Try.prog 19 #[] w fun e w' => e = .returned (.bool true) ∧ Below w.heap.size w w' := by
  have c1 := Lib.hid (fun w => at_ (Add_any 2147483647 1 0 wh w1 w) (y := .returned (.tuple #[.int .i32 (-2147483648), .bool true])) (ret_ib (by decide +kernel) (by decide +kernel)))
  have c2 := Lib.hid (fun w => at_ (Sub_any (-2147483648) 0 1 wl isW_zero w) (y := .returned (.tuple #[.int .i32 2147483647, .bool true])) (ret_ib (by decide +kernel) (by decide +kernel)))
  have c3 := Lib.hid (fun w => at_ (Sum_any (-1) (-1) 1 w) (y := .returned (.tuple #[.int .i32 (-1), .int .i32 1])) (ret_ii (by decide +kernel) (by decide +kernel)))
  have c4 := Lib.hid (fun w => at_ (Diff_any 0 1 0 w) (y := .returned (.tuple #[.int .i32 (-1), .int .i32 1])) (ret_ii (by decide +kernel) (by decide +kernel)))
  have c5 := Lib.hid (fun w => at_ (Mul_any (-1) (-1) (-1) w) (y := .returned (.tuple #[.int .i32 0, .int .i32 (-1)])) (ret_ii (by decide +kernel) (by decide +kernel)))
  have c6 := Lib.hid (fun w => at_ (Div_fits 0 (-1) 10 (by decide +kernel) w) (y := .returned (.tuple #[.int .i32 429496729, .int .i32 5, .bool false])) (ret_iib (by decide +kernel) (by decide +kernel) rfl))
  have c7 := Lib.hid (Div_over 2 0 2 (by decide +kernel))
  have c8 := Lib.hid (fun w => at_ (Shl_any 0 3 31 w) (y := .returned (.tuple #[.int .i32 1, .int .i32 (-2147483648)])) (ret_ii (by decide +kernel) (by decide +kernel)))
  have c9 := Lib.hid (fun w => at_ (Shr_any (-2147483648) 0 63 w) (y := .returned (.tuple #[.int .i32 0, .int .i32 1])) (ret_ii (by decide +kernel) (by decide +kernel)))
  have c10 := Lib.hid (fun w => at_ (Norm_any 1 0 w) nrmE_one)
  go_enter Try.func19, Try.ntmps19
  go_wp2_with (first
    | (go_at_call 11; (with_reducible refine (c1.out _).mono ?_); rintro e w' ⟨rfl, rfl⟩)
    | (go_at_call 13; (with_reducible refine (c2.out _).mono ?_); rintro e w' ⟨rfl, rfl⟩)
    | (go_at_call 20; (with_reducible refine (c3.out _).mono ?_); rintro e w3 ⟨rfl, b3⟩)
    | (go_at_call 22; (with_reducible refine (c4.out _).mono ?_); rintro e w4 ⟨rfl, b4⟩)
    | (go_at_call 24; (with_reducible refine (c5.out _).mono ?_); rintro e w5 ⟨rfl, b5⟩)
    | (go_at_call 26; (with_reducible refine (c6.out _).mono ?_); rintro e w6 ⟨rfl, b6⟩)
    | (go_at_call 26; (with_reducible refine (c7.out _).mono ?_); rintro e w7 ⟨rfl, b7⟩)
    | (go_at_call 28; (with_reducible refine (c8.out _).mono ?_); rintro e w8 ⟨rfl, b8⟩)
    | (go_at_call 30; (with_reducible refine (c9.out _).mono ?_); rintro e w9 ⟨rfl, b9⟩)
    | (go_at_call 32; (with_reducible refine (c10.out _).mono ?_); rintro e w10 ⟨rfl, b10⟩))
  go_ret
  exact ⟨rfl, blw (blw (blw (blw (blw (blw (blw b3 b4) b5) b6) b7) b8) b9) b10⟩
end Go.Proofs.Ytikfbooihacjfaa
