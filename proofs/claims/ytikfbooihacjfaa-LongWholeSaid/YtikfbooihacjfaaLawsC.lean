/- The law on products and quotients returns true for all words. -/
import Derived.Test.YtikfbooihacjfaaAwake
namespace Go.Proofs.Ytikfbooihacjfaa
open Go Go.RowKit

theorem below_yes {a b : Int} (h : U a < U b) (w : World) : Calls Try.prog 34 #[.int .i32 a, .int .i32 b] w fun e w' => e = .returned (.bool true) ∧ w = w' := by
  have h' : a % 4294967296 < b % 4294967296 := by have := U_cast a; have := U_cast b; omega
  clear h
  go_enter Try.func34, Try.ntmps34
  go_wp2
  go_ret
  exact ⟨rfl, rfl⟩
theorem below_no {a b : Int} (h : ¬ U a < U b) (w : World) : Calls Try.prog 34 #[.int .i32 a, .int .i32 b] w fun e w' => e = .returned (.bool false) ∧ w = w' := by
  have h' : ¬ a % 4294967296 < b % 4294967296 := by have := U_cast a; have := U_cast b; omega
  clear h
  go_enter Try.func34, Try.ntmps34
  go_wp2
  go_ret
  exact ⟨rfl, rfl⟩
theorem U_hiW {d : Nat} (h : d < 18446744073709551616) : U (hiW d) = d / 4294967296 := by unfold hiW; rw [U_wd]; omega
/-- What was multiplied is divided again. -/
theorem Div_Mul (a d c : Int) (ha : isW a) (hc : isW c) (h : U c < U d) (w : World) : Calls Try.prog 26 #[.int .i32 (hiW (U a * U d + U c)), .int .i32 (wd (U a * U d + U c)), .int .i32 d] w fun e w' => e = .returned (.tuple #[.int .i32 a, .int .i32 c, .bool false]) ∧ Below w.heap.size w w' := by
  have hs := mulD_lt a d c
  have hp : 0 < U d := by omega
  have hq : (U a * U d + U c) / U d = U a := by rw [Nat.mul_comm, Nat.mul_add_div hp, Nat.div_eq_of_lt h]; omega
  have hr : (U a * U d + U c) % U d = U c := by rw [Nat.mul_comm, Nat.mul_add_mod, Nat.mod_eq_of_lt h]
  have hf : U (hiW (U a * U d + U c)) < U d := by
    rw [U_hiW hs]
    refine (Nat.div_lt_iff_lt_mul (by omega)).2 ?_
    have h1 := U_lt a
    have h2 : (U a + 1) * U d ≤ 4294967296 * U d := Nat.mul_le_mul_right _ (by omega)
    rw [Nat.add_mul] at h2
    rw [Nat.mul_comm (U d)]
    omega
  have c1 := Div_fits _ (wd (U a * U d + U c)) d hf w
  rw [DW_hilo _ hs, hq, hr, wd_U ha, wd_U hc] at c1
  exact c1
/-- What was divided is multiplied again. -/
theorem Mul_Div (a c d : Int) (ha : isW a) (hc : isW c) (h : U a < U d) (w : World) : Calls Try.prog 24 #[.int .i32 (wd (DW a c / U d)), .int .i32 d, .int .i32 (wd (DW a c % U d))] w fun e w' => e = .returned (.tuple #[.int .i32 c, .int .i32 a]) ∧ Below w.heap.size w w' := by
  have hp : 0 < U d := by omega
  have h2 := U_lt d
  have h3 := U_lt c
  have hq : DW a c / U d < 4294967296 := by
    refine (Nat.div_lt_iff_lt_mul hp).2 ?_
    unfold DW
    have : (U a + 1) * 4294967296 ≤ U d * 4294967296 := Nat.mul_le_mul_right _ (by omega)
    rw [Nat.mul_comm 4294967296]
    omega
  have hr : DW a c % U d < 4294967296 := Nat.lt_trans (Nat.mod_lt _ hp) h2
  have c1 := Mul_any (wd (DW a c / U d)) d (wd (DW a c % U d)) w
  have e : U (wd (DW a c / U d)) * U d + U (wd (DW a c % U d)) = DW a c := by
    rw [U_wd, U_wd, Nat.mod_eq_of_lt hq, Nat.mod_eq_of_lt hr, Nat.mul_comm]
    exact Nat.div_add_mod _ _
  rw [e, hi_DW ha, lo_DW hc] at c1
  exact c1
theorem rem_below (a c d : Int) (h : U a < U d) : U (wd (DW a c % U d)) < U d := by
  have hp : 0 < U d := by omega
  have h2 := U_lt d
  have := Nat.mod_lt (DW a c) hp
  rw [U_wd, Nat.mod_eq_of_lt (by omega)]
  exact this
set_option maxRecDepth 100000 in
set_option maxHeartbeats 8000000 in
theorem walkLongBack (a0 a1 a2 : Int) (w0 : (Lit.int .i32 a0).wf = true) (_w1 : (Lit.int .i32 a1).wf = true) (w2 : (Lit.int .i32 a2).wf = true) (w : World) :
    Calls Try.prog 6 #[.int .i32 a0, .int .i32 a1, .int .i32 a2] w fun e w' => e = .returned (.bool true) ∧ Below w.heap.size w w' := by
  have ha := isW_of_wf w0
  have hc := isW_of_wf w2
  clear w0 w2
  by_cases h1 : U a2 < U a1 <;> by_cases h2 : U a0 < U a1
  · have b1 := Lib.hid (below_yes h1)
    have b2 := Lib.hid (below_yes h2)
    have b3 := Lib.hid (below_yes (rem_below a0 a2 a1 h2))
    have c1 := Lib.hid (Mul_any a0 a1 a2)
    have c2 := Lib.hid (Div_Mul a0 a1 a2 ha hc h1)
    have c3 := Lib.hid (Div_fits a0 a2 a1 h2)
    have c4 := Lib.hid (Mul_Div a0 a2 a1 ha hc h2)
    clear ha hc h1 h2
    generalize hiW (U a0 * U a1 + U a2) = x1 at *
    generalize wd (U a0 * U a1 + U a2) = x2 at *
    generalize wd (DW a0 a2 / U a1) = x3 at *
    generalize wd (DW a0 a2 % U a1) = x4 at *
    go_enter Try.func6, Try.ntmps6
    go_wp2_with (first
      | (go_at_call 34; (with_reducible refine (b1.out _).mono ?_); rintro e w' ⟨rfl, rfl⟩)
      | (go_at_call 34; (with_reducible refine (b2.out _).mono ?_); rintro e w' ⟨rfl, rfl⟩)
      | (go_at_call 34; (with_reducible refine (b3.out _).mono ?_); rintro e w' ⟨rfl, rfl⟩)
      | (go_at_call 24; (with_reducible refine (c1.out _).mono ?_); rintro e w1 ⟨rfl, e1⟩)
      | (go_at_call 26; (with_reducible refine (c2.out _).mono ?_); rintro e w2 ⟨rfl, e2⟩)
      | (go_at_call 26; (with_reducible refine (c3.out _).mono ?_); rintro e w3 ⟨rfl, e3⟩)
      | (go_at_call 24; (with_reducible refine (c4.out _).mono ?_); rintro e w4 ⟨rfl, e4⟩)
      | (go_at_call 19; (with_reducible refine (awake_any _).mono ?_); rintro e w9 ⟨rfl, e9⟩))
    go_ret
    exact ⟨rfl, blw (blw (blw (blw e1 e2) e3) e4) e9⟩
  · have b1 := Lib.hid (below_yes h1)
    have b2 := Lib.hid (below_no h2)
    have c1 := Lib.hid (Mul_any a0 a1 a2)
    have c2 := Lib.hid (Div_Mul a0 a1 a2 ha hc h1)
    have c3 := Lib.hid (Div_over a0 a2 a1 (by omega))
    clear ha hc h1 h2
    generalize hiW (U a0 * U a1 + U a2) = x1 at *
    generalize wd (U a0 * U a1 + U a2) = x2 at *
    go_enter Try.func6, Try.ntmps6
    go_wp2_with (first
      | (go_at_call 34; (with_reducible refine (b1.out _).mono ?_); rintro e w' ⟨rfl, rfl⟩)
      | (go_at_call 34; (with_reducible refine (b2.out _).mono ?_); rintro e w' ⟨rfl, rfl⟩)
      | (go_at_call 24; (with_reducible refine (c1.out _).mono ?_); rintro e w1 ⟨rfl, e1⟩)
      | (go_at_call 26; (with_reducible refine (c2.out _).mono ?_); rintro e w2 ⟨rfl, e2⟩)
      | (go_at_call 26; (with_reducible refine (c3.out _).mono ?_); rintro e w3 ⟨rfl, e3⟩)
      | (go_at_call 19; (with_reducible refine (awake_any _).mono ?_); rintro e w9 ⟨rfl, e9⟩))
    go_ret
    exact ⟨rfl, blw (blw (blw e1 e2) e3) e9⟩
  · have b1 := Lib.hid (below_no h1)
    have b2 := Lib.hid (below_yes h2)
    have b3 := Lib.hid (below_yes (rem_below a0 a2 a1 h2))
    have c3 := Lib.hid (Div_fits a0 a2 a1 h2)
    have c4 := Lib.hid (Mul_Div a0 a2 a1 ha hc h2)
    clear ha hc h1 h2
    generalize wd (DW a0 a2 / U a1) = x3 at *
    generalize wd (DW a0 a2 % U a1) = x4 at *
    go_enter Try.func6, Try.ntmps6
    go_wp2_with (first
      | (go_at_call 34; (with_reducible refine (b1.out _).mono ?_); rintro e w' ⟨rfl, rfl⟩)
      | (go_at_call 34; (with_reducible refine (b2.out _).mono ?_); rintro e w' ⟨rfl, rfl⟩)
      | (go_at_call 34; (with_reducible refine (b3.out _).mono ?_); rintro e w' ⟨rfl, rfl⟩)
      | (go_at_call 26; (with_reducible refine (c3.out _).mono ?_); rintro e w3 ⟨rfl, e3⟩)
      | (go_at_call 24; (with_reducible refine (c4.out _).mono ?_); rintro e w4 ⟨rfl, e4⟩)
      | (go_at_call 19; (with_reducible refine (awake_any _).mono ?_); rintro e w9 ⟨rfl, e9⟩))
    go_ret
    exact ⟨rfl, blw (blw e3 e4) e9⟩
  · have b1 := Lib.hid (below_no h1)
    have b2 := Lib.hid (below_no h2)
    have c3 := Lib.hid (Div_over a0 a2 a1 (by omega))
    clear ha hc h1 h2
    go_enter Try.func6, Try.ntmps6
    go_wp2_with (first
      | (go_at_call 34; (with_reducible refine (b1.out _).mono ?_); rintro e w' ⟨rfl, rfl⟩)
      | (go_at_call 34; (with_reducible refine (b2.out _).mono ?_); rintro e w' ⟨rfl, rfl⟩)
      | (go_at_call 26; (with_reducible refine (c3.out _).mono ?_); rintro e w3 ⟨rfl, e3⟩)
      | (go_at_call 19; (with_reducible refine (awake_any _).mono ?_); rintro e w9 ⟨rfl, e9⟩))
    go_ret
    exact ⟨rfl, blw e3 e9⟩
end Go.Proofs.Ytikfbooihacjfaa
