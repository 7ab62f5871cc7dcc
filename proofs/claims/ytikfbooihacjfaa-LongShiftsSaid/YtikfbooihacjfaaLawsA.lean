/- The laws on sums and on shifts, against the reference, return true for all words. -/
import Derived.Test.YtikfbooihacjfaaAwake
namespace Go.Proofs.Ytikfbooihacjfaa
open Go Go.RowKit

set_option maxRecDepth 100000 in
set_option maxHeartbeats 2000000 in
theorem walkLongAdds (a0 a1 a2 : Int) (w0 : (Lit.int .i32 a0).wf = true) (w1 : (Lit.int .i32 a1).wf = true) (w2 : (Lit.int .i32 a2).wf = true) (w : World) :
    Calls Try.prog 3 #[.int .i32 a0, .int .i32 a1, .int .i32 a2] w fun e w' => e = .returned (.bool true) ∧ Below w.heap.size w w' := by
  have ha := isW_of_wf w0
  have hb := isW_of_wf w1
  have hc := isW_of_wf w2
  have c1 := Lib.hid (Add_any a0 a1 a2 ha hb)
  have c2 := Lib.hid (RAdd_any a0 a1 a2 ha hb hc)
  have c3 := Lib.hid (Sub_any a0 a1 a2 ha hb)
  have c4 := Lib.hid (RSub_any a0 a1 a2 ha hb hc)
  have c5 := Lib.hid (Xdble_any a0 ha)
  have c6 := Lib.hid (RXdble_any a0)
  have c7 := Lib.hid (Csngl_any a0 a1 ha hb)
  have c8 := Lib.hid (RCsngl_any a0 a1)
  clear w0 w1 w2 ha hb hc
  generalize wrap32 (a0 + a1 + a2 % 2) = x1 at *
  generalize overB (a0 + a1 + a2 % 2) = x2 at *
  generalize wrap32 (a0 - a1 - a2 % 2) = x3 at *
  generalize overB (a0 - a1 - a2 % 2) = x4 at *
  generalize (a1 != sgn a0) = x6 at *
  generalize sgn a0 = x5 at *
  go_enter Try.func3, Try.ntmps3
  go_wp2_with (first
    | (go_at_call 11; (with_reducible refine (c1.out _).mono ?_); rintro e w' ⟨rfl, rfl⟩)
    | (go_at_call 12; (with_reducible refine (c2.out _).mono ?_); rintro e w2 ⟨rfl, b2⟩)
    | (go_at_call 13; (with_reducible refine (c3.out _).mono ?_); rintro e w' ⟨rfl, rfl⟩)
    | (go_at_call 14; (with_reducible refine (c4.out _).mono ?_); rintro e w4 ⟨rfl, b4⟩)
    | (go_at_call 15; (with_reducible refine (c5.out _).mono ?_); rintro e w5 ⟨rfl, b5⟩)
    | (go_at_call 16; (with_reducible refine (c6.out _).mono ?_); rintro e w' ⟨rfl, rfl⟩)
    | (go_at_call 17; (with_reducible refine (c7.out _).mono ?_); rintro e w7 ⟨rfl, b7⟩)
    | (go_at_call 18; (with_reducible refine (c8.out _).mono ?_); rintro e w' ⟨rfl, rfl⟩)
    | (go_at_call 19; (with_reducible refine (awake_any _).mono ?_); rintro e w9 ⟨rfl, b9⟩))
  go_ret
  exact ⟨rfl, blw (blw (blw (blw b2 b4) b5) b7) b9⟩
theorem RDiff_as (a b c : Int) (ha : isW a) (hb : isW b) (hc : isW c) (w : World) : Calls Try.prog 23 #[.int .i32 a, .int .i32 b, .int .i32 c] w fun e w' => e = .returned (.tuple #[.int .i32 (wrap32 (dif a b c)), .int .i32 (bor (dif a b c))]) ∧ Below w.heap.size w w' :=
  at_ (RDiff_any a b c ha hb hc w) (ret_ii (by unfold dif dfn wd wrap32; omega) rfl)
set_option maxRecDepth 100000 in
set_option maxHeartbeats 2000000 in
theorem walkLongSums (a0 a1 a2 : Int) (w0 : (Lit.int .i32 a0).wf = true) (w1 : (Lit.int .i32 a1).wf = true) (w2 : (Lit.int .i32 a2).wf = true) (w : World) :
    Calls Try.prog 4 #[.int .i32 a0, .int .i32 a1, .int .i32 a2] w fun e w' => e = .returned (.bool true) ∧ Below w.heap.size w w' := by
  have ha := isW_of_wf w0
  have hb := isW_of_wf w1
  have hc := isW_of_wf w2
  have c1 := Lib.hid (Sum_any a0 a1 a2)
  have c2 := Lib.hid (RSum_any a0 a1 a2 ha hb hc)
  have c3 := Lib.hid (Diff_any a0 a1 a2)
  have c4 := Lib.hid (RDiff_as a0 a1 a2 ha hb hc)
  have c5 := Lib.hid (Mul_any a0 a1 a2)
  have c6 := Lib.hid (fun w => RMul_any a0 a1 a2 ha hb hc w (mulD_lt a0 a1 a2))
  clear w0 w1 w2 ha hb hc
  generalize wd (U a0 + U a1 + cb a2) = x1 at *
  generalize (((U a0 + U a1 + cb a2) / 4294967296 : Nat) : Int) = x2 at *
  generalize wrap32 (dif a0 a1 a2) = x3 at *
  generalize bor (dif a0 a1 a2) = x4 at *
  generalize wd (U a0 * U a1 + U a2) = x5 at *
  generalize hiW (U a0 * U a1 + U a2) = x6 at *
  go_enter Try.func4, Try.ntmps4
  go_wp2_with (first
    | (go_at_call 20; (with_reducible refine (c1.out _).mono ?_); rintro e w1 ⟨rfl, b1⟩)
    | (go_at_call 21; (with_reducible refine (c2.out _).mono ?_); rintro e w2 ⟨rfl, b2⟩)
    | (go_at_call 22; (with_reducible refine (c3.out _).mono ?_); rintro e w3 ⟨rfl, b3⟩)
    | (go_at_call 23; (with_reducible refine (c4.out _).mono ?_); rintro e w4 ⟨rfl, b4⟩)
    | (go_at_call 24; (with_reducible refine (c5.out _).mono ?_); rintro e w5 ⟨rfl, b5⟩)
    | (go_at_call 25; (with_reducible refine (c6.out _).mono ?_); rintro e w6 ⟨rfl, b6⟩)
    | (go_at_call 19; (with_reducible refine (awake_any _).mono ?_); rintro e w9 ⟨rfl, b9⟩))
  go_ret
  exact ⟨rfl, blw (blw (blw (blw (blw (blw b1 b2) b3) b4) b5) b6) b9⟩
/-- What Div answers. -/
theorem div_both (hi lo d : Int) (hh : isW hi) (hl : isW lo) (hd : isW d) : ∃ q r o, (∀ w : World, Calls Try.prog 26 #[.int .i32 hi, .int .i32 lo, .int .i32 d] w fun e w' => e = .returned (.tuple #[.int .i32 q, .int .i32 r, .bool o]) ∧ Below w.heap.size w w') ∧
    (∀ w : World, Calls Try.prog 27 #[.int .i32 hi, .int .i32 lo, .int .i32 d] w fun e w' => e = .returned (.tuple #[.int .i32 q, .int .i32 r, .bool o]) ∧ Below w.heap.size w w') := by
  by_cases h : U hi < U d
  · exact ⟨_, _, _, Div_fits hi lo d h, RDiv_fits hi lo d hh hl hd h⟩
  · exact ⟨_, _, _, Div_over hi lo d (by omega), RDiv_over hi lo d hh hd (by omega)⟩
set_option maxRecDepth 100000 in
set_option maxHeartbeats 2000000 in
theorem walkLongShifts (a0 a1 a2 : Int) (w0 : (Lit.int .i32 a0).wf = true) (w1 : (Lit.int .i32 a1).wf = true) (w2 : (Lit.int .i32 a2).wf = true) (w : World) :
    Calls Try.prog 5 #[.int .i32 a0, .int .i32 a1, .int .i32 a2] w fun e w' => e = .returned (.bool true) ∧ Below w.heap.size w w' := by
  have ha := isW_of_wf w0
  have hb := isW_of_wf w1
  have hc := isW_of_wf w2
  obtain ⟨q, r, o, d1, d2⟩ := div_both a0 a1 a2 ha hb hc
  have c1 := Lib.hid d1
  have c2 := Lib.hid d2
  clear d1 d2
  have c3 := Lib.hid (Shl_any a0 a1 a2)
  have c4 := Lib.hid (RShl_any a0 a1 a2 ha hb hc)
  have c5 := Lib.hid (Shr_any a0 a1 a2)
  have c6 := Lib.hid (RShr_any a0 a1 a2 ha hb hc)
  obtain ⟨H, L, n, hE⟩ : ∃ H L n, nrmE (DW a0 a1) = .returned (.tuple #[.int .i32 H, .int .i32 L, .int .i32 n]) := ⟨_, _, _, rfl⟩
  have c7 := Lib.hid (fun w => at_ (Norm_any a0 a1 w) hE)
  have c8 := Lib.hid (fun w => at_ (RNorm_any a0 a1 ha hb w) hE)
  clear w0 w1 w2 ha hb hc hE
  generalize hiW (shlD (DW a0 a1) (U a2)) = x1 at *
  generalize wd (shlD (DW a0 a1) (U a2)) = x2 at *
  generalize hiW (shrD (DW a0 a1) (U a2)) = x3 at *
  generalize wd (shrD (DW a0 a1) (U a2)) = x4 at *
  go_enter Try.func5, Try.ntmps5
  go_wp2_with (first
    | (go_at_call 26; (with_reducible refine (c1.out _).mono ?_); rintro e w1 ⟨rfl, b1⟩)
    | (go_at_call 27; (with_reducible refine (c2.out _).mono ?_); rintro e w2 ⟨rfl, b2⟩)
    | (go_at_call 28; (with_reducible refine (c3.out _).mono ?_); rintro e w3 ⟨rfl, b3⟩)
    | (go_at_call 29; (with_reducible refine (c4.out _).mono ?_); rintro e w4 ⟨rfl, b4⟩)
    | (go_at_call 30; (with_reducible refine (c5.out _).mono ?_); rintro e w5 ⟨rfl, b5⟩)
    | (go_at_call 31; (with_reducible refine (c6.out _).mono ?_); rintro e w6 ⟨rfl, b6⟩)
    | (go_at_call 32; (with_reducible refine (c7.out _).mono ?_); rintro e w7 ⟨rfl, b7⟩)
    | (go_at_call 33; (with_reducible refine (c8.out _).mono ?_); rintro e w8 ⟨rfl, b8⟩)
    | (go_at_call 19; (with_reducible refine (awake_any _).mono ?_); rintro e w9 ⟨rfl, b9⟩))
  go_ret
  exact ⟨rfl, blw (blw (blw (blw (blw (blw (blw (blw b1 b2) b3) b4) b5) b6) b7) b8) b9⟩
end Go.Proofs.Ytikfbooihacjfaa
