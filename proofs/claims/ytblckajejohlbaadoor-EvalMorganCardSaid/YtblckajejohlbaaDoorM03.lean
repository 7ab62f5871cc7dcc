/- The program: Apply. -/
import Derived.Test.YtblckajejohlbaaDoorM02
import Derived.Test.YtblckajejohlbaaDoorM01
import Derived.Test.YtblckajejohlbaaDoorFla
set_option linter.unusedVariables false
set_option linter.unusedSimpArgs false
set_option linter.unusedVariables false
set_option linter.unusedSimpArgs false
namespace Go.Proofs.YtblckajejohlbaaDoor
open Go Go.RowKit L8 L10 L14

theorem fn_some (g : Nat) (cs : Array Value) (W : World) : (binOp .neq 134 (.func (.func g) #[] cs) .nilFunc).run Tryd.prog W = .ok (.bool true) W := by
  kernel_rfl
theorem fn_none (W : World) : (binOp .neq 134 .nilFunc .nilFunc).run Tryd.prog W = .ok (.bool false) W := by
  kernel_rfl
set_option maxRecDepth 100000 in
theorem apply_6 (a b : Int) (ha : W1.isW a) (hb : W1.isW b) (w : World) : Calls Tryd.prog 67 #[.int .u8 6, .int .i32 a, .int .i32 b] w fun e w' => e = .returned (.tuple #[.int .i32 (wrap32 (a + b)), .bool true]) ∧ Below w.heap.size w w' := by
  have C := Lib.hid (W1.Sum_any a b ha hb w)
  have D := Lib.hid (cert_6 w)
  generalize wrap32 (a + b) = r at *
  have nf := fn_some
  go_enter Tryd.func67, Tryd.ntmps67
  go_wp2_with (first | (go_at_call 82; (with_reducible refine (D.out).mono ?_); rintro e w' ⟨rfl, rfl⟩) | (go_at_call 105; (with_reducible refine (C.out).mono ?_); rintro e w' ⟨rfl, rfl⟩))
  go_ret2
  exact ⟨rfl, b0 _⟩
set_option maxRecDepth 100000 in
theorem apply_7 (a b : Int) (ha : W1.isW a) (hb : W1.isW b) (w : World) : Calls Tryd.prog 67 #[.int .u8 7, .int .i32 a, .int .i32 b] w fun e w' => e = .returned (.tuple #[.int .i32 (wrap32 (a - b)), .bool true]) ∧ Below w.heap.size w w' := by
  have C := Lib.hid (W1.Diff_any a b ha hb w)
  have D := Lib.hid (cert_7 w)
  generalize wrap32 (a - b) = r at *
  have nf := fn_some
  go_enter Tryd.func67, Tryd.ntmps67
  go_wp2_with (first | (go_at_call 82; (with_reducible refine (D.out).mono ?_); rintro e w' ⟨rfl, rfl⟩) | (go_at_call 106; (with_reducible refine (C.out).mono ?_); rintro e w' ⟨rfl, rfl⟩))
  go_ret2
  exact ⟨rfl, b0 _⟩
set_option maxRecDepth 100000 in
theorem apply_8 (a b : Int) (ha : W1.isW a) (hb : W1.isW b) (w : World) : Calls Tryd.prog 67 #[.int .u8 8, .int .i32 a, .int .i32 b] w fun e w' => e = .returned (.tuple #[.int .i32 (wrap32 (a * b)), .bool true]) ∧ Below w.heap.size w w' := by
  have C := Lib.hid (W1.Prod_any a b ha hb w)
  have D := Lib.hid (cert_8 w)
  generalize wrap32 (a * b) = r at *
  have nf := fn_some
  go_enter Tryd.func67, Tryd.ntmps67
  go_wp2_with (first | (go_at_call 82; (with_reducible refine (D.out).mono ?_); rintro e w' ⟨rfl, rfl⟩) | (go_at_call 107; (with_reducible refine (C.out).mono ?_); rintro e w' ⟨rfl, rfl⟩))
  go_ret2
  exact ⟨rfl, b0 _⟩
set_option maxRecDepth 100000 in
theorem apply_9 (a b : Int) (ha : W1.isW a) (hb : W1.isW b) (w : World) : Calls Tryd.prog 67 #[.int .u8 9, .int .i32 a, .int .i32 b] w fun e w' => e = .returned (.tuple #[.int .i32 (bits .and .i32 a b), .bool true]) ∧ Below w.heap.size w w' := by
  have C := Lib.hid (cl_2 a b w)
  have D := Lib.hid (cert_9 w)
  generalize bits .and .i32 a b = r at *
  have nf := fn_some
  go_enter Tryd.func67, Tryd.ntmps67
  go_wp2_with (first | (go_at_call 82; (with_reducible refine (D.out).mono ?_); rintro e w' ⟨rfl, rfl⟩) | (go_at_call 108; (with_reducible refine (C.out).mono ?_); rintro e w' ⟨rfl, rfl⟩))
  go_ret2
  exact ⟨rfl, b0 _⟩
set_option maxRecDepth 100000 in
theorem apply_10 (a b : Int) (ha : W1.isW a) (hb : W1.isW b) (w : World) : Calls Tryd.prog 67 #[.int .u8 10, .int .i32 a, .int .i32 b] w fun e w' => e = .returned (.tuple #[.int .i32 (bits .or .i32 a b), .bool true]) ∧ Below w.heap.size w w' := by
  have C := Lib.hid (cl_3 a b w)
  have D := Lib.hid (cert_10 w)
  generalize bits .or .i32 a b = r at *
  have nf := fn_some
  go_enter Tryd.func67, Tryd.ntmps67
  go_wp2_with (first | (go_at_call 82; (with_reducible refine (D.out).mono ?_); rintro e w' ⟨rfl, rfl⟩) | (go_at_call 109; (with_reducible refine (C.out).mono ?_); rintro e w' ⟨rfl, rfl⟩))
  go_ret2
  exact ⟨rfl, b0 _⟩
set_option maxRecDepth 100000 in
theorem apply_11 (a b : Int) (ha : W1.isW a) (hb : W1.isW b) (w : World) : Calls Tryd.prog 67 #[.int .u8 11, .int .i32 a, .int .i32 b] w fun e w' => e = .returned (.tuple #[.int .i32 (bits .xor .i32 a b), .bool true]) ∧ Below w.heap.size w w' := by
  have C := Lib.hid (cl_4 a b w)
  have D := Lib.hid (cert_11 w)
  generalize bits .xor .i32 a b = r at *
  have nf := fn_some
  go_enter Tryd.func67, Tryd.ntmps67
  go_wp2_with (first | (go_at_call 82; (with_reducible refine (D.out).mono ?_); rintro e w' ⟨rfl, rfl⟩) | (go_at_call 110; (with_reducible refine (C.out).mono ?_); rintro e w' ⟨rfl, rfl⟩))
  go_ret2
  exact ⟨rfl, b0 _⟩
set_option maxRecDepth 100000 in
theorem apply_12 (a b : Int) (ha : W1.isW a) (hb : W1.isW b) (w : World) : Calls Tryd.prog 67 #[.int .u8 12, .int .i32 a, .int .i32 b] w fun e w' => e = .returned (.tuple #[.int .i32 (W1.shlR a b), .bool true]) ∧ Below w.heap.size w w' := by
  have C := Lib.hid (W1.Shl_any a b w)
  have D := Lib.hid (cert_12 w)
  generalize W1.shlR a b = r at *
  have nf := fn_some
  go_enter Tryd.func67, Tryd.ntmps67
  go_wp2_with (first | (go_at_call 82; (with_reducible refine (D.out).mono ?_); rintro e w' ⟨rfl, rfl⟩) | (go_at_call 111; (with_reducible refine (C.out).mono ?_); rintro e w' ⟨rfl, rfl⟩))
  go_ret2
  exact ⟨rfl, b0 _⟩
set_option maxRecDepth 100000 in
theorem apply_13 (a b : Int) (ha : W1.isW a) (hb : W1.isW b) (w : World) : Calls Tryd.prog 67 #[.int .u8 13, .int .i32 a, .int .i32 b] w fun e w' => e = .returned (.tuple #[.int .i32 (W1.shrR a b), .bool true]) ∧ Below w.heap.size w w' := by
  have C := Lib.hid (W1.Shr_any a b w)
  have D := Lib.hid (cert_13 w)
  generalize W1.shrR a b = r at *
  have nf := fn_some
  go_enter Tryd.func67, Tryd.ntmps67
  go_wp2_with (first | (go_at_call 82; (with_reducible refine (D.out).mono ?_); rintro e w' ⟨rfl, rfl⟩) | (go_at_call 112; (with_reducible refine (C.out).mono ?_); rintro e w' ⟨rfl, rfl⟩))
  go_ret2
  exact ⟨rfl, b0 _⟩
set_option maxRecDepth 100000 in
theorem apply_24 (a b : Int) (ha : W1.isW a) (hb : W1.isW b) (w : World) : Calls Tryd.prog 67 #[.int .u8 24, .int .i32 a, .int .i32 b] w fun e w' => e = .returned (.tuple #[.int .i32 (wrap32 (0 - a)), .bool true]) ∧ Below w.heap.size w w' := by
  have C := Lib.hid (cl_11 a b ha w)
  have D := Lib.hid (cert_24 w)
  generalize wrap32 (0 - a) = r at *
  have nf := fn_some
  go_enter Tryd.func67, Tryd.ntmps67
  go_wp2_with (first | (go_at_call 82; (with_reducible refine (D.out).mono ?_); rintro e w' ⟨rfl, rfl⟩) | (go_at_call 120; (with_reducible refine (C.out).mono ?_); rintro e w' ⟨rfl, rfl⟩))
  go_ret2
  exact ⟨rfl, b0 _⟩
set_option maxRecDepth 100000 in
theorem apply_25 (a b : Int) (ha : W1.isW a) (hb : W1.isW b) (w : World) : Calls Tryd.prog 67 #[.int .u8 25, .int .i32 a, .int .i32 b] w fun e w' => e = .returned (.tuple #[.int .i32 (bits .xor .i32 (-1) a), .bool true]) ∧ Below w.heap.size w w' := by
  have C := Lib.hid (cl_12 a b ha w)
  have D := Lib.hid (cert_25 w)
  generalize bits .xor .i32 (-1) a = r at *
  have nf := fn_some
  go_enter Tryd.func67, Tryd.ntmps67
  go_wp2_with (first | (go_at_call 82; (with_reducible refine (D.out).mono ?_); rintro e w' ⟨rfl, rfl⟩) | (go_at_call 121; (with_reducible refine (C.out).mono ?_); rintro e w' ⟨rfl, rfl⟩))
  go_ret2
  exact ⟨rfl, b0 _⟩
set_option maxRecDepth 100000 in
theorem apply_14 (a b : Int) (ha : W1.isW a) (hb : W1.isW b) (w : World) : Calls Tryd.prog 67 #[.int .u8 14, .int .i32 a, .int .i32 b] w fun e w' => e = .returned (.tuple #[.int .i32 (b01 (a == b)), .bool true]) ∧ Below w.heap.size w w' := by
  have H := boxS_new w 142 #[.func (.func 113) #[] #[]]
  have C := Lib.hid (wh_14 a b w.heap.size _ ((H.cell 0).trans rfl))
  have D := Lib.hid (cert_14 w)
  have B := Lib.hid (bal (b0 w) (.cells #[.func (.func 113) #[] #[]] 142))
  clear H
  generalize b01 (a == b) = r at *
  have nf := fn_some
  go_enter Tryd.func67, Tryd.ntmps67
  go_wp2_with (first | (go_at_call 82; (with_reducible refine (D.out).mono ?_); rintro e w' ⟨rfl, rfl⟩) | (go_at_call 103; (with_reducible refine (C.out).mono ?_); rintro e w' ⟨rfl, rfl⟩))
  go_ret2
  exact ⟨rfl, B.out⟩
set_option maxRecDepth 100000 in
theorem apply_15 (a b : Int) (ha : W1.isW a) (hb : W1.isW b) (w : World) : Calls Tryd.prog 67 #[.int .u8 15, .int .i32 a, .int .i32 b] w fun e w' => e = .returned (.tuple #[.int .i32 (b01 (a != b)), .bool true]) ∧ Below w.heap.size w w' := by
  have H := boxS_new w 142 #[.func (.func 114) #[] #[]]
  have C := Lib.hid (wh_15 a b w.heap.size _ ((H.cell 0).trans rfl))
  have D := Lib.hid (cert_15 w)
  have B := Lib.hid (bal (b0 w) (.cells #[.func (.func 114) #[] #[]] 142))
  clear H
  generalize b01 (a != b) = r at *
  have nf := fn_some
  go_enter Tryd.func67, Tryd.ntmps67
  go_wp2_with (first | (go_at_call 82; (with_reducible refine (D.out).mono ?_); rintro e w' ⟨rfl, rfl⟩) | (go_at_call 103; (with_reducible refine (C.out).mono ?_); rintro e w' ⟨rfl, rfl⟩))
  go_ret2
  exact ⟨rfl, B.out⟩
set_option maxRecDepth 100000 in
theorem apply_16 (a b : Int) (ha : W1.isW a) (hb : W1.isW b) (w : World) : Calls Tryd.prog 67 #[.int .u8 16, .int .i32 a, .int .i32 b] w fun e w' => e = .returned (.tuple #[.int .i32 (b01 (decide (a < b))), .bool true]) ∧ Below w.heap.size w w' := by
  have H := boxS_new w 142 #[.func (.func 115) #[] #[]]
  have C := Lib.hid (wh_16 a b w.heap.size _ ((H.cell 0).trans rfl))
  have D := Lib.hid (cert_16 w)
  have B := Lib.hid (bal (b0 w) (.cells #[.func (.func 115) #[] #[]] 142))
  clear H
  generalize b01 (decide (a < b)) = r at *
  have nf := fn_some
  go_enter Tryd.func67, Tryd.ntmps67
  go_wp2_with (first | (go_at_call 82; (with_reducible refine (D.out).mono ?_); rintro e w' ⟨rfl, rfl⟩) | (go_at_call 103; (with_reducible refine (C.out).mono ?_); rintro e w' ⟨rfl, rfl⟩))
  go_ret2
  exact ⟨rfl, B.out⟩
set_option maxRecDepth 100000 in
theorem apply_17 (a b : Int) (ha : W1.isW a) (hb : W1.isW b) (w : World) : Calls Tryd.prog 67 #[.int .u8 17, .int .i32 a, .int .i32 b] w fun e w' => e = .returned (.tuple #[.int .i32 (b01 (decide (b < a))), .bool true]) ∧ Below w.heap.size w w' := by
  have H := boxS_new w 142 #[.func (.func 116) #[] #[]]
  have C := Lib.hid (wh_17 a b w.heap.size _ ((H.cell 0).trans rfl))
  have D := Lib.hid (cert_17 w)
  have B := Lib.hid (bal (b0 w) (.cells #[.func (.func 116) #[] #[]] 142))
  clear H
  generalize b01 (decide (b < a)) = r at *
  have nf := fn_some
  go_enter Tryd.func67, Tryd.ntmps67
  go_wp2_with (first | (go_at_call 82; (with_reducible refine (D.out).mono ?_); rintro e w' ⟨rfl, rfl⟩) | (go_at_call 103; (with_reducible refine (C.out).mono ?_); rintro e w' ⟨rfl, rfl⟩))
  go_ret2
  exact ⟨rfl, B.out⟩
set_option maxRecDepth 100000 in
theorem apply_18 (a b : Int) (ha : W1.isW a) (hb : W1.isW b) (w : World) : Calls Tryd.prog 67 #[.int .u8 18, .int .i32 a, .int .i32 b] w fun e w' => e = .returned (.tuple #[.int .i32 (b01 (decide (a ≤ b))), .bool true]) ∧ Below w.heap.size w w' := by
  have H := boxS_new w 142 #[.func (.func 117) #[] #[]]
  have C := Lib.hid (wh_18 a b w.heap.size _ ((H.cell 0).trans rfl))
  have D := Lib.hid (cert_18 w)
  have B := Lib.hid (bal (b0 w) (.cells #[.func (.func 117) #[] #[]] 142))
  clear H
  generalize b01 (decide (a ≤ b)) = r at *
  have nf := fn_some
  go_enter Tryd.func67, Tryd.ntmps67
  go_wp2_with (first | (go_at_call 82; (with_reducible refine (D.out).mono ?_); rintro e w' ⟨rfl, rfl⟩) | (go_at_call 103; (with_reducible refine (C.out).mono ?_); rintro e w' ⟨rfl, rfl⟩))
  go_ret2
  exact ⟨rfl, B.out⟩
set_option maxRecDepth 100000 in
theorem apply_19 (a b : Int) (ha : W1.isW a) (hb : W1.isW b) (w : World) : Calls Tryd.prog 67 #[.int .u8 19, .int .i32 a, .int .i32 b] w fun e w' => e = .returned (.tuple #[.int .i32 (b01 (decide (b ≤ a))), .bool true]) ∧ Below w.heap.size w w' := by
  have H := boxS_new w 142 #[.func (.func 118) #[] #[]]
  have C := Lib.hid (wh_19 a b w.heap.size _ ((H.cell 0).trans rfl))
  have D := Lib.hid (cert_19 w)
  have B := Lib.hid (bal (b0 w) (.cells #[.func (.func 118) #[] #[]] 142))
  clear H
  generalize b01 (decide (b ≤ a)) = r at *
  have nf := fn_some
  go_enter Tryd.func67, Tryd.ntmps67
  go_wp2_with (first | (go_at_call 82; (with_reducible refine (D.out).mono ?_); rintro e w' ⟨rfl, rfl⟩) | (go_at_call 103; (with_reducible refine (C.out).mono ?_); rintro e w' ⟨rfl, rfl⟩))
  go_ret2
  exact ⟨rfl, B.out⟩
set_option maxRecDepth 100000 in
theorem apply_22 (a b : Int) (ha : W1.isW a) (hb : W1.isW b) (w : World) : Calls Tryd.prog 67 #[.int .u8 22, .int .i32 a, .int .i32 b] w fun e w' => e = .returned (.tuple #[.int .i32 (b01 (W1.aftB a b)), .bool true]) ∧ Below w.heap.size w w' := by
  have H := boxS_new w 142 #[.func (.func 119) #[] #[]]
  have C := Lib.hid (wh_22 a b ha hb w.heap.size _ ((H.cell 0).trans rfl))
  have D := Lib.hid (cert_22 w)
  have B := Lib.hid (bal (b0 w) (.cells #[.func (.func 119) #[] #[]] 142))
  clear H
  generalize b01 (W1.aftB a b) = r at *
  have nf := fn_some
  go_enter Tryd.func67, Tryd.ntmps67
  go_wp2_with (first | (go_at_call 82; (with_reducible refine (D.out).mono ?_); rintro e w' ⟨rfl, rfl⟩) | (go_at_call 103; (with_reducible refine (C.out).mono ?_); rintro e w' ⟨rfl, rfl⟩))
  go_ret2
  exact ⟨rfl, B.out⟩
set_option maxRecDepth 100000 in
theorem cert_no (o : Nat) (c6 : ((o : Int) == 6) = false) (c7 : ((o : Int) == 7) = false) (c8 : ((o : Int) == 8) = false) (c9 : ((o : Int) == 9) = false) (c10 : ((o : Int) == 10) = false) (c11 : ((o : Int) == 11) = false) (c12 : ((o : Int) == 12) = false) (c13 : ((o : Int) == 13) = false) (c14 : ((o : Int) == 14) = false) (c15 : ((o : Int) == 15) = false) (c16 : ((o : Int) == 16) = false) (c17 : ((o : Int) == 17) = false) (c18 : ((o : Int) == 18) = false) (c19 : ((o : Int) == 19) = false) (c22 : ((o : Int) == 22) = false) (c24 : ((o : Int) == 24) = false) (c25 : ((o : Int) == 25) = false) (w : World) : Calls Tryd.prog 82 #[.int .u8 (o : Int)] w fun e w' => e = .returned .nilFunc ∧ w = w' := by
  go_enter Tryd.func82, Tryd.ntmps82
  go_wp2
  go_ret
  exact ⟨rfl, rfl⟩
set_option maxRecDepth 100000 in
theorem unc_no (o : Nat) (a b : Int) (d1 : ((o : Int) == 1) = false) (d2 : ((o : Int) == 2) = false) (d3 : ((o : Int) == 3) = false) (d4 : ((o : Int) == 4) = false) (d5 : ((o : Int) == 5) = false) (d20 : ((o : Int) == 20) = false) (d21 : ((o : Int) == 21) = false) (d23 : ((o : Int) == 23) = false) (d26 : ((o : Int) == 26) = false) (w : World) : Calls Tryd.prog 83 #[.int .u8 (o : Int), .int .i32 a, .int .i32 b] w fun e w' => e = .returned (.tuple #[.int .i32 0, .bool true]) ∧ w = w' := by
  go_enter Tryd.func83, Tryd.ntmps83
  go_wp2
  go_ret2
  exact ⟨rfl, rfl⟩
set_option maxRecDepth 100000 in
theorem unc_1 (a b : Int) (ha : W1.isW a) (hb : W1.isW b) (w : World) : Calls Tryd.prog 83 #[.int .u8 1, .int .i32 a, .int .i32 b] w fun e w' => e = .returned (.tuple #[.int .i32 (wrap32 (a + b)), .bool (W1.overB (a + b))]) ∧ w = w' := by
  have C := Lib.hid (W1.Add_any a b ha hb w)
  generalize wrap32 (a + b) = r at *
  generalize W1.overB (a + b) = p at *
  go_enter Tryd.func83, Tryd.ntmps83
  go_wp2_with (go_at_call 122; (with_reducible refine (C.out).mono ?_); rintro e w' ⟨rfl, rfl⟩)
  go_ret2
  exact ⟨rfl, rfl⟩
set_option maxRecDepth 100000 in
theorem unc_2 (a b : Int) (ha : W1.isW a) (hb : W1.isW b) (w : World) : Calls Tryd.prog 83 #[.int .u8 2, .int .i32 a, .int .i32 b] w fun e w' => e = .returned (.tuple #[.int .i32 (wrap32 (a - b)), .bool (W1.overB (a - b))]) ∧ w = w' := by
  have C := Lib.hid (W1.Sub_any a b ha hb w)
  generalize wrap32 (a - b) = r at *
  generalize W1.overB (a - b) = p at *
  go_enter Tryd.func83, Tryd.ntmps83
  go_wp2_with (go_at_call 123; (with_reducible refine (C.out).mono ?_); rintro e w' ⟨rfl, rfl⟩)
  go_ret2
  exact ⟨rfl, rfl⟩
set_option maxRecDepth 100000 in
theorem unc_3 (a b : Int) (ha : W1.isW a) (hb : W1.isW b) (w : World) : Calls Tryd.prog 83 #[.int .u8 3, .int .i32 a, .int .i32 b] w fun e w' => e = .returned (.tuple #[.int .i32 (wrap32 (a * b)), .bool (W1.overB (a * b))]) ∧ w = w' := by
  have C := Lib.hid (W1.Mul_any a b ha hb w)
  generalize wrap32 (a * b) = r at *
  generalize W1.overB (a * b) = p at *
  go_enter Tryd.func83, Tryd.ntmps83
  go_wp2_with (go_at_call 124; (with_reducible refine (C.out).mono ?_); rintro e w' ⟨rfl, rfl⟩)
  go_ret2
  exact ⟨rfl, rfl⟩
set_option maxRecDepth 100000 in
theorem unc_4 (a b : Int) (ha : W1.isW a) (hb : W1.isW b) (w : World) : Calls Tryd.prog 83 #[.int .u8 4, .int .i32 a, .int .i32 b] w fun e w' => e = .returned (.tuple #[.int .i32 (W1.divR a b), .bool (W1.divB a b)]) ∧ w = w' := by
  have C := Lib.hid (W1.Div_any a b ha w)
  generalize W1.divR a b = r at *
  generalize W1.divB a b = p at *
  go_enter Tryd.func83, Tryd.ntmps83
  go_wp2_with (go_at_call 125; (with_reducible refine (C.out).mono ?_); rintro e w' ⟨rfl, rfl⟩)
  go_ret2
  exact ⟨rfl, rfl⟩
set_option maxRecDepth 100000 in
theorem unc_5 (a b : Int) (ha : W1.isW a) (hb : W1.isW b) (w : World) : Calls Tryd.prog 83 #[.int .u8 5, .int .i32 a, .int .i32 b] w fun e w' => e = .returned (.tuple #[.int .i32 (W1.remR a b), .bool ((b == 0))]) ∧ w = w' := by
  have C := Lib.hid (W1.Rem_any a b ha hb w)
  generalize W1.remR a b = r at *
  generalize (b == 0) = p at *
  go_enter Tryd.func83, Tryd.ntmps83
  go_wp2_with (go_at_call 126; (with_reducible refine (C.out).mono ?_); rintro e w' ⟨rfl, rfl⟩)
  go_ret2
  exact ⟨rfl, rfl⟩
set_option maxRecDepth 100000 in
theorem unc_23 (a b : Int) (ha : W1.isW a) (hb : W1.isW b) (w : World) : Calls Tryd.prog 83 #[.int .u8 23, .int .i32 a, .int .i32 b] w fun e w' => e = .returned (.tuple #[.int .i32 (wrap32 (0 - a)), .bool (W1.overB (0 - a))]) ∧ w = w' := by
  have C := Lib.hid (W1.Sub_any 0 a ⟨by decide, by decide⟩ ha w)
  generalize wrap32 (0 - a) = r at *
  generalize W1.overB (0 - a) = p at *
  go_enter Tryd.func83, Tryd.ntmps83
  go_wp2_with (go_at_call 123; (with_reducible refine (C.out).mono ?_); rintro e w' ⟨rfl, rfl⟩)
  go_ret2
  exact ⟨rfl, rfl⟩
set_option maxRecDepth 100000 in
theorem unc_20 (a b : Int) (w : World) : Calls Tryd.prog 83 #[.int .u8 20, .int .i32 a, .int .i32 b] w fun e w' => e = .returned (.tuple #[.int .i32 (bits .and .i32 a b), .bool (!isT a || !isT b)]) ∧ w = w' := by
  have C := Lib.hid (isTruth_any a w)
  have D := Lib.hid (isTruth_any b w)
  generalize isT a = p at *
  generalize isT b = q at *
  go_enter Tryd.func83, Tryd.ntmps83
  cases p
  all_goals
    go_wp2_with (first | (go_at_call 101; (with_reducible refine (C.out).mono ?_); rintro e w' ⟨rfl, rfl⟩) | (go_at_call 101; (with_reducible refine (D.out).mono ?_); rintro e w' ⟨rfl, rfl⟩))
    go_ret2
    exact ⟨by simp, rfl⟩
set_option maxRecDepth 100000 in
theorem unc_21 (a b : Int) (w : World) : Calls Tryd.prog 83 #[.int .u8 21, .int .i32 a, .int .i32 b] w fun e w' => e = .returned (.tuple #[.int .i32 (bits .or .i32 a b), .bool (!isT a || !isT b)]) ∧ w = w' := by
  have C := Lib.hid (isTruth_any a w)
  have D := Lib.hid (isTruth_any b w)
  generalize isT a = p at *
  generalize isT b = q at *
  go_enter Tryd.func83, Tryd.ntmps83
  cases p
  all_goals
    go_wp2_with (first | (go_at_call 101; (with_reducible refine (C.out).mono ?_); rintro e w' ⟨rfl, rfl⟩) | (go_at_call 101; (with_reducible refine (D.out).mono ?_); rintro e w' ⟨rfl, rfl⟩))
    go_ret2
    exact ⟨by simp, rfl⟩
set_option maxRecDepth 100000 in
theorem unc_26 (a b : Int) (ha : W1.isW a) (w : World) : Calls Tryd.prog 83 #[.int .u8 26, .int .i32 a, .int .i32 b] w fun e w' => e = .returned (.tuple #[.int .i32 (wrap32 (1 - a)), .bool (!isT a)]) ∧ w = w' := by
  have C := Lib.hid (isTruth_any a w)
  generalize isT a = p at *
  go_enter Tryd.func83, Tryd.ntmps83
  go_wp2_with (go_at_call 101; (with_reducible refine (C.out).mono ?_); rintro e w' ⟨rfl, rfl⟩)
  go_ret2
  exact ⟨by simp, rfl⟩
end Go.Proofs.YtblckajejohlbaaDoor
/- The program: Apply is what the chapter's table says. -/
set_option linter.unusedVariables false
set_option linter.unusedSimpArgs false
namespace Go.Proofs.YtblckajejohlbaaDoor
open Go Go.RowKit L8 L10 L14

/-- What Apply answers. -/
def ApR (w : World) (x : Option Int) (e : Ending) (w' : World) : Prop := e = .returned (apR x) ∧ Below w.heap.size w w'
set_option maxRecDepth 100000 in
theorem apply_unc (o : Nat) (a b : Int) (x : Option Int) (w : World) (C : Calls Tryd.prog 82 #[.int .u8 (o : Int)] w fun e w' => e = .returned .nilFunc ∧ w = w')
    (D : Calls Tryd.prog 83 #[.int .u8 (o : Int), .int .i32 a, .int .i32 b] w fun e w' => UncR x e ∧ w = w') : Calls Tryd.prog 67 #[.int .u8 (o : Int), .int .i32 a, .int .i32 b] w (ApR w x) := by
  have C := Lib.hid C
  have D := Lib.hid D
  have nf := fn_none
  go_enter Tryd.func67, Tryd.ntmps67
  go_wp2_with (first | (go_at_call 82; (with_reducible refine (C.out).mono ?_); rintro e w' ⟨rfl, rfl⟩) | (go_at_call 83; (with_reducible refine (D.out).mono ?_); rintro e w' ⟨⟨r, p, rfl, h1, h2⟩, rfl⟩; have H1 := Lib.hid h1; have H2 := Lib.hid h2; clear h1 h2; cases p))
  · go_ret2
    exact ⟨by rw [H2.out trivial]; rfl, b0 _⟩
  · go_ret2
    exact ⟨by rw [H1.out trivial]; rfl, b0 _⟩
theorem ap_some {w : World} {k : IntKind} {v u : Int} {e : Ending} {w' : World} (hv : v = u) (h : e = .returned (.tuple #[.int .i32 v, .bool true]) ∧ Below w.heap.size w w') : ApR w (some u) e w' := by
  subst hv
  exact h
theorem ap_beq (a b : Int) : (a == b) = decide (a = b) := by by_cases h : a = b <;> simp [h]
theorem ap_bne (a b : Int) : (a != b) = decide (a ≠ b) := by by_cases h : a = b <;> simp [h]
theorem bits_tt {a b : Int} (ha : isT a = true) (hb : isT b = true) : bits .and .i32 a b = b01 (decide (a = 1 ∧ b = 1)) ∧ bits .or .i32 a b = b01 (decide (a = 1 ∨ b = 1)) := by
  rcases (by simpa [isT] using ha : a = 0 ∨ a = 1) with rfl | rfl <;> rcases (by simpa [isT] using hb : b = 0 ∨ b = 1) with rfl | rfl <;> exact ⟨by decide +kernel, by decide +kernel⟩
theorem div_unc (a b : Int) : UncR (apO 4 a b) (.returned (.tuple #[.int .i32 (W1.divR a b), .bool (W1.divB a b)])) := by
  refine ⟨_, _, rfl, fun h => ?_, fun h => ?_⟩
  · show (if b = 0 ∨ (a = -2147483648 ∧ b = -1) then none else some (a.tdiv b)) = none
    rw [if_pos]
    unfold W1.divB at h
    simpa using h
  · show (if b = 0 ∨ (a = -2147483648 ∧ b = -1) then none else some (a.tdiv b)) = _
    have hd : ¬ (b = 0 ∨ (a = -2147483648 ∧ b = -1)) := by
      intro hc
      have : W1.divB a b = true := by unfold W1.divB; simpa using hc
      rw [this] at h; cases h
    rw [if_neg hd]
    unfold W1.divR
    rw [h]
    simp
theorem rem_unc (a b : Int) : UncR (apO 5 a b) (.returned (.tuple #[.int .i32 (W1.remR a b), .bool (b == 0)])) := by
  refine ⟨_, _, rfl, fun h => ?_, fun h => ?_⟩
  · show (if b = 0 then none else some (a.tmod b)) = none
    rw [if_pos (by simpa using h)]
  · show (if b = 0 then none else some (a.tmod b)) = _
    unfold W1.remR
    rw [h, if_neg (by simpa using h), if_neg (by simp)]
theorem and_unc (a b : Int) : UncR (apO 20 a b) (.returned (.tuple #[.int .i32 (bits .and .i32 a b), .bool (!isT a || !isT b)])) := by
  refine ⟨_, _, rfl, fun h => ?_, fun h => ?_⟩
  · show (if isT a = true ∧ isT b = true then some (b01 (decide (a = 1 ∧ b = 1))) else none) = none
    rw [if_neg]
    rintro ⟨h1, h2⟩
    rw [h1, h2] at h; cases h
  · have hh : isT a = true ∧ isT b = true := by simpa using h
    show (if isT a = true ∧ isT b = true then some (b01 (decide (a = 1 ∧ b = 1))) else none) = _
    rw [if_pos hh, (bits_tt hh.1 hh.2).1]
theorem or_unc (a b : Int) : UncR (apO 21 a b) (.returned (.tuple #[.int .i32 (bits .or .i32 a b), .bool (!isT a || !isT b)])) := by
  refine ⟨_, _, rfl, fun h => ?_, fun h => ?_⟩
  · show (if isT a = true ∧ isT b = true then some (b01 (decide (a = 1 ∨ b = 1))) else none) = none
    rw [if_neg]
    rintro ⟨h1, h2⟩
    rw [h1, h2] at h; cases h
  · have hh : isT a = true ∧ isT b = true := by simpa using h
    show (if isT a = true ∧ isT b = true then some (b01 (decide (a = 1 ∨ b = 1))) else none) = _
    rw [if_pos hh, (bits_tt hh.1 hh.2).2]
theorem not_unc (a b : Int) : UncR (apO 26 a b) (.returned (.tuple #[.int .i32 (wrap32 (1 - a)), .bool (!isT a)])) := by
  refine ⟨_, _, rfl, fun h => ?_, fun h => ?_⟩
  · show (if isT a = true then some (1 - a) else none) = none
    rw [if_neg]
    intro h1
    rw [h1] at h; cases h
  · have hh : isT a = true := by simpa using h
    show (if isT a = true then some (1 - a) else none) = _
    rw [if_pos hh]
    rcases (by simpa [isT] using hh : a = 0 ∨ a = 1) with rfl | rfl <;> (rw [w32_is]; rfl)
theorem ap_big {o : Nat} (h : o = 0 ∨ 27 ≤ o) (a b : Int) : apO o a b = none := by
  unfold apO
  repeat rw [if_neg (by omega)]
theorem cert_un (o : Nat) (h : o = 0 ∨ o = 1 ∨ o = 2 ∨ o = 3 ∨ o = 4 ∨ o = 5 ∨ o = 20 ∨ o = 21 ∨ o = 23 ∨ 26 ≤ o) (w : World) : Calls Tryd.prog 82 #[.int .u8 (o : Int)] w fun e w' => e = .returned .nilFunc ∧ w = w' :=
  cert_no o (by rw [beq_eq_false_iff_ne]; omega) (by rw [beq_eq_false_iff_ne]; omega) (by rw [beq_eq_false_iff_ne]; omega) (by rw [beq_eq_false_iff_ne]; omega) (by rw [beq_eq_false_iff_ne]; omega) (by rw [beq_eq_false_iff_ne]; omega) (by rw [beq_eq_false_iff_ne]; omega) (by rw [beq_eq_false_iff_ne]; omega) (by rw [beq_eq_false_iff_ne]; omega) (by rw [beq_eq_false_iff_ne]; omega) (by rw [beq_eq_false_iff_ne]; omega) (by rw [beq_eq_false_iff_ne]; omega) (by rw [beq_eq_false_iff_ne]; omega) (by rw [beq_eq_false_iff_ne]; omega) (by rw [beq_eq_false_iff_ne]; omega) (by rw [beq_eq_false_iff_ne]; omega) (by rw [beq_eq_false_iff_ne]; omega) w
theorem Apply_any (o : Nat) (a b : Int) (ha : W1.isW a) (hb : W1.isW b) (w : World) : Calls Tryd.prog 67 #[.int .u8 (o : Int), .int .i32 a, .int .i32 b] w (ApR w (apO o a b)) := by
  by_cases hbig : o = 0 ∨ 27 ≤ o
  · rw [ap_big hbig]
    exact apply_unc o a b none w (cert_un o (by omega) w) ((unc_no o a b (by rw [beq_eq_false_iff_ne]; omega) (by rw [beq_eq_false_iff_ne]; omega) (by rw [beq_eq_false_iff_ne]; omega) (by rw [beq_eq_false_iff_ne]; omega) (by rw [beq_eq_false_iff_ne]; omega) (by rw [beq_eq_false_iff_ne]; omega) (by rw [beq_eq_false_iff_ne]; omega) (by rw [beq_eq_false_iff_ne]; omega) (by rw [beq_eq_false_iff_ne]; omega) w).mono fun e w' ⟨h1, h2⟩ => ⟨⟨_, _, h1, fun _ => rfl, fun h => by cases h⟩, h2⟩)
  have hs : o = 1 ∨ o = 2 ∨ o = 3 ∨ o = 4 ∨ o = 5 ∨ o = 6 ∨ o = 7 ∨ o = 8 ∨ o = 9 ∨ o = 10 ∨ o = 11 ∨ o = 12 ∨ o = 13 ∨ o = 14 ∨ o = 15 ∨ o = 16 ∨ o = 17 ∨ o = 18 ∨ o = 19 ∨ o = 20 ∨ o = 21 ∨ o = 22 ∨ o = 23 ∨ o = 24 ∨ o = 25 ∨ o = 26 := by omega
  rcases hs with rfl | rfl | rfl | rfl | rfl | rfl | rfl | rfl | rfl | rfl | rfl | rfl | rfl | rfl | rfl | rfl | rfl | rfl | rfl | rfl | rfl | rfl | rfl | rfl | rfl | rfl
  · exact apply_unc 1 a b _ w (cert_un 1 (by omega) w) ((unc_1 a b ha hb w).mono fun e w' ⟨h1, h2⟩ => ⟨by rw [h1]; exact unc_fit _, h2⟩)
  · exact apply_unc 2 a b _ w (cert_un 2 (by omega) w) ((unc_2 a b ha hb w).mono fun e w' ⟨h1, h2⟩ => ⟨by rw [h1]; exact unc_fit _, h2⟩)
  · exact apply_unc 3 a b _ w (cert_un 3 (by omega) w) ((unc_3 a b ha hb w).mono fun e w' ⟨h1, h2⟩ => ⟨by rw [h1]; exact unc_fit _, h2⟩)
  · exact apply_unc 4 a b _ w (cert_un 4 (by omega) w) ((unc_4 a b ha hb w).mono fun e w' ⟨h1, h2⟩ => ⟨by rw [h1]; exact div_unc a b, h2⟩)
  · exact apply_unc 5 a b _ w (cert_un 5 (by omega) w) ((unc_5 a b ha hb w).mono fun e w' ⟨h1, h2⟩ => ⟨by rw [h1]; exact rem_unc a b, h2⟩)
  · exact (apply_6 a b ha hb w).mono fun e w' h => ap_some (k := .i32) (w32_is _) h
  · exact (apply_7 a b ha hb w).mono fun e w' h => ap_some (k := .i32) (w32_is _) h
  · exact (apply_8 a b ha hb w).mono fun e w' h => ap_some (k := .i32) (w32_is _) h
  · exact (apply_9 a b ha hb w).mono fun e w' h => ap_some (k := .i32) rfl h
  · exact (apply_10 a b ha hb w).mono fun e w' h => ap_some (k := .i32) rfl h
  · exact (apply_11 a b ha hb w).mono fun e w' h => ap_some (k := .i32) rfl h
  · exact (apply_12 a b ha hb w).mono fun e w' h => ap_some (k := .i32) (by unfold W1.shlR W1.plc; exact w32_is _) h
  · exact (apply_13 a b ha hb w).mono fun e w' h => ap_some (k := .i32) (by unfold W1.shrR W1.plc; exact w32_is _) h
  · exact (apply_14 a b ha hb w).mono fun e w' h => ap_some (k := .i32) (by rw [ap_beq a b]) h
  · exact (apply_15 a b ha hb w).mono fun e w' h => ap_some (k := .i32) (by rw [ap_bne a b]) h
  · exact (apply_16 a b ha hb w).mono fun e w' h => ap_some (k := .i32) rfl h
  · exact (apply_17 a b ha hb w).mono fun e w' h => ap_some (k := .i32) rfl h
  · exact (apply_18 a b ha hb w).mono fun e w' h => ap_some (k := .i32) rfl h
  · exact (apply_19 a b ha hb w).mono fun e w' h => ap_some (k := .i32) rfl h
  · exact apply_unc 20 a b _ w (cert_un 20 (by omega) w) ((unc_20 a b w).mono fun e w' ⟨h1, h2⟩ => ⟨by rw [h1]; exact and_unc a b, h2⟩)
  · exact apply_unc 21 a b _ w (cert_un 21 (by omega) w) ((unc_21 a b w).mono fun e w' ⟨h1, h2⟩ => ⟨by rw [h1]; exact or_unc a b, h2⟩)
  · exact (apply_22 a b ha hb w).mono fun e w' h => ap_some (k := .i32) (by unfold W1.aftB; rw [w32_is]) h
  · exact apply_unc 23 a b _ w (cert_un 23 (by omega) w) ((unc_23 a b ha hb w).mono fun e w' ⟨h1, h2⟩ => ⟨by rw [h1]; exact unc_fit _, h2⟩)
  · exact (apply_24 a b ha hb w).mono fun e w' h => ap_some (k := .i32) (w32_is _) h
  · exact (apply_25 a b ha hb w).mono fun e w' h => ap_some (k := .i32) rfl h
  · exact apply_unc 26 a b _ w (cert_un 26 (by omega) w) ((unc_26 a b ha w).mono fun e w' ⟨h1, h2⟩ => ⟨by rw [h1]; exact not_unc a b, h2⟩)
end Go.Proofs.YtblckajejohlbaaDoor
/- Contracts of the integer functions of the reference of layer 1: each returns what its twin of package word returns, for all words. -/
set_option linter.unusedVariables false
set_option linter.unusedSimpArgs false
namespace Go.Proofs.YtblckajejohlbaaDoor.W1
open Go Go.RowKit

theorem emod_of_tmod_neg {t : Int} (h : t.tmod 4294967296 < 0) : t.tmod 4294967296 + 4294967296 = t % 4294967296 := by
  have h1 : t = 4294967296 * t.tdiv 4294967296 + t.tmod 4294967296 := (Int.mul_tdiv_add_tmod t 4294967296).symm
  have h2 := Int.lt_tmod_of_pos t (show (0 : Int) < 4294967296 by omega)
  generalize t.tmod 4294967296 = r at *
  generalize t.tdiv 4294967296 = q at *
  omega
theorem emod_of_tmod_nonneg {t : Int} (h : ¬ t.tmod 4294967296 < 0) : t.tmod 4294967296 = t % 4294967296 := by
  have h1 : t = 4294967296 * t.tdiv 4294967296 + t.tmod 4294967296 := (Int.mul_tdiv_add_tmod t 4294967296).symm
  have h2 := Int.tmod_lt_of_pos t (show (0 : Int) < 4294967296 by omega)
  generalize t.tmod 4294967296 = r at *
  generalize t.tdiv 4294967296 = q at *
  omega
theorem tmod_rng (t : Int) : -4294967296 < t.tmod 4294967296 ∧ t.tmod 4294967296 < 4294967296 :=
  ⟨Int.lt_tmod_of_pos t (by omega), Int.tmod_lt_of_pos t (by omega)⟩
/-- A number far from the ends of an int64. -/
def isD (t : Int) : Prop := -4611686018427387904 ≤ t ∧ t ≤ 4611686018427387904
theorem Wrap_neg (t : Int) (ht : isD t) (_hs : t < 0) (w : World) : Calls Tryd.prog 88 #[.int .i64 t] w fun e w' => e = .returned (.int .i32 (wrap32 t)) ∧ w = w' := by
  obtain ⟨t0, t1⟩ := ht
  obtain ⟨r0, r1⟩ := tmod_rng t
  have hw : wrap32 (wrap32 (t % 4294967296)) = wrap32 t := by unfold wrap32; omega
  have hw' : wrap32 (wrap32 (t % 4294967296) - 4294967296) = wrap32 t := by unfold wrap32; omega
  by_cases hn : t.tmod 4294967296 < 0
  · have he := emod_of_tmod_neg hn
    by_cases hh : 2147483648 ≤ t.tmod 4294967296 + 4294967296
    all_goals
      have He := Lib.hid he
      have Hw := Lib.hid hw
      clear he hw hw'
      go_enter Tryd.func88, Tryd.ntmps88
      go_wp2
      go_ret
      exact ⟨ret_i (by rw [← Hw.out, ← He.out]; unfold wrap32; omega), rfl⟩
  · have he := emod_of_tmod_nonneg hn
    by_cases hh : 2147483648 ≤ t.tmod 4294967296
    all_goals
      have He := Lib.hid he
      have Hw := Lib.hid hw
      clear he hw hw'
      go_enter Tryd.func88, Tryd.ntmps88
      go_wp2
      go_ret
      exact ⟨ret_i (by rw [← Hw.out, ← He.out]; unfold wrap32; omega), rfl⟩
theorem Wrap_any (t : Int) (ht : isD t) (w : World) : Calls Tryd.prog 88 #[.int .i64 t] w fun e w' => e = .returned (.int .i32 (wrap32 t)) ∧ w = w' := by
  rcases Int.lt_or_le t 0 with hs | hs
  · exact Wrap_neg t ht hs w
  · obtain ⟨t0, t1⟩ := ht
    by_cases hh : 2147483648 ≤ t % 4294967296
    all_goals
      go_enter Tryd.func88, Tryd.ntmps88
      go_wp2
      go_ret
      exact ⟨ret_i (by unfold wrap32; omega), rfl⟩
theorem Fits_any (t : Int) (w : World) : Calls Tryd.prog 127 #[.int .i64 t] w fun e w' => e = .returned (.bool (!overB t)) ∧ w = w' := by
  by_cases h : -2147483648 ≤ t
  · go_enter Tryd.func127, Tryd.ntmps127
    go_wp2
    go_ret
    exact ⟨ret_b (by unfold overB; simp [h]), rfl⟩
  · go_enter Tryd.func127, Tryd.ntmps127
    go_wp2
    go_ret
    exact ⟨ret_b (by unfold overB; simp; omega), rfl⟩
theorem Unsigned_any (v : Int) (hv : isW v) (w : World) : Calls Tryd.prog 129 #[.int .i32 v] w fun e w' => e = .returned (.int .i64 (v % 4294967296)) ∧ w = w' := by
  obtain ⟨v0, v1⟩ := hv
  by_cases h : v < 0
  all_goals
    go_enter Tryd.func129, Tryd.ntmps129
    go_wp2
    go_ret
    exact ⟨ret_i (by omega), rfl⟩
theorem size_any (v : Int) (hv : isW v) (w : World) : Calls Tryd.prog 128 #[.int .i32 v] w fun e w' => e = .returned (.int .i64 (v.natAbs : Int)) ∧ w = w' := by
  obtain ⟨v0, v1⟩ := hv
  by_cases h : v < 0
  all_goals
    go_enter Tryd.func128, Tryd.ntmps128
    go_wp2
    go_ret
    exact ⟨ret_i (by omega), rfl⟩
theorem RSub_any (a b : Int) (ha : isW a) (hb : isW b) (w : World) : Calls Tryd.prog 131 #[.int .i32 a, .int .i32 b] w fun e w' => e = .returned (.tuple #[.int .i32 (wrap32 (a - b)), .bool (overB (a - b))]) ∧ w = w' := by
  obtain ⟨a0, a1⟩ := ha
  obtain ⟨b0, b1⟩ := hb
  have hd : isD (a - b) := ⟨by omega, by omega⟩
  go_enter Tryd.func131, Tryd.ntmps131
  go_wp2_with (first | (go_at_call 88; refine (Wrap_any _ hd _).mono ?_; rintro e w' ⟨rfl, rfl⟩) | (go_at_call 127; refine (Fits_any _ _).mono ?_; rintro e w' ⟨rfl, rfl⟩))
  go_ret2
  exact ⟨ret_ib rfl (by simp), rfl⟩
theorem RMul_any (a b : Int) (ha : isW a) (hb : isW b) (w : World) : Calls Tryd.prog 89 #[.int .i32 a, .int .i32 b] w fun e w' => e = .returned (.tuple #[.int .i32 (wrap32 (a * b)), .bool (overB (a * b))]) ∧ w = w' := by
  have hd : isD (a * b) := mul_bd ha hb
  obtain ⟨m0, m1⟩ := mul_bd ha hb
  obtain ⟨a0, a1⟩ := ha
  obtain ⟨b0, b1⟩ := hb
  go_enter Tryd.func89, Tryd.ntmps89
  go_wp2_with (first | (go_at_call 88; refine (Wrap_any _ hd _).mono ?_; rintro e w' ⟨rfl, rfl⟩) | (go_at_call 127; refine (Fits_any _ _).mono ?_; rintro e w' ⟨rfl, rfl⟩))
  go_ret2
  exact ⟨ret_ib rfl (by simp), rfl⟩
theorem RAfter_any (a b : Int) (ha : isW a) (hb : isW b) (w : World) : Calls Tryd.prog 94 #[.int .i32 a, .int .i32 b] w fun e w' => e = .returned (.bool (aftB a b)) ∧ w = w' := by
  go_enter Tryd.func94, Tryd.ntmps94
  go_wp2_with (go_at_call 131; refine (RSub_any _ _ ha hb _).mono ?_; rintro e w' ⟨rfl, rfl⟩)
  go_ret
  exact ⟨ret_b rfl, rfl⟩
theorem tdiv_same {a b : Int} (h : (a < 0) ↔ (b < 0)) : a.tdiv b = (a.natAbs : Int) / (b.natAbs : Int) := by
  rcases Int.lt_or_le a 0 with ha | ha
  · have hb := h.1 ha
    rw [show (a.natAbs : Int) = -a by omega, show (b.natAbs : Int) = -b by omega, ← Int.tdiv_eq_ediv_of_nonneg (by omega), Int.neg_tdiv, Int.tdiv_neg, Int.neg_neg]
  · have hb : ¬ b < 0 := fun hb => by have := h.2 hb; omega
    rw [show (a.natAbs : Int) = a by omega, show (b.natAbs : Int) = b by omega, ← Int.tdiv_eq_ediv_of_nonneg (by omega)]
theorem tdiv_other {a b : Int} (h : ¬ ((a < 0) ↔ (b < 0))) : a.tdiv b = -((a.natAbs : Int) / (b.natAbs : Int)) := by
  rcases Int.lt_or_le a 0 with ha | ha
  · have hb : ¬ b < 0 := fun hb => h ⟨fun _ => hb, fun _ => ha⟩
    rw [show (a.natAbs : Int) = -a by omega, show (b.natAbs : Int) = b by omega, ← Int.tdiv_eq_ediv_of_nonneg (by omega), Int.neg_tdiv, Int.neg_neg]
  · have hb : b < 0 := by
      rcases Int.lt_or_le b 0 with hb | hb
      · exact hb
      · exact absurd ⟨fun h => by omega, fun h => by omega⟩ h
    rw [show (a.natAbs : Int) = a by omega, show (b.natAbs : Int) = -b by omega, ← Int.tdiv_eq_ediv_of_nonneg (by omega), Int.tdiv_neg, Int.neg_neg]
theorem quo_bd {a b : Int} (ha : isW a) : 0 ≤ (a.natAbs : Int) / (b.natAbs : Int) ∧ (a.natAbs : Int) / (b.natAbs : Int) ≤ 2147483648 := by
  obtain ⟨a0, a1⟩ := ha
  have hm : a.natAbs ≤ 2147483648 := by omega
  have hd : a.natAbs / b.natAbs ≤ a.natAbs := Nat.div_le_self ..
  have hc : ((a.natAbs / b.natAbs : Nat) : Int) = (a.natAbs : Int) / (b.natAbs : Int) := Int.natCast_ediv ..
  rw [← hc]
  generalize a.natAbs / b.natAbs = q at *
  generalize a.natAbs = m at *
  omega
theorem size_as {v x : Int} (hx : Hid ((v.natAbs : Int) = x)) (hv : isW v) (w : World) : Calls Tryd.prog 128 #[.int .i32 v] w fun e w' => e = .returned (.int .i64 x) ∧ w = w' := by
  have h := size_any v hv w
  rw [hx.out] at h
  exact h
theorem RDiv_any (a b : Int) (ha : isW a) (hb : isW b) (w : World) : Calls Tryd.prog 86 #[.int .i32 a, .int .i32 b] w fun e w' => e = .returned (.tuple #[.int .i32 (divR a b), .bool (divB a b)]) ∧ w = w' := by
  by_cases hb0 : b = 0
  · subst hb0
    go_enter Tryd.func86, Tryd.ntmps86
    go_wp2
    go_ret2
    exact ⟨ret_ib rfl rfl, rfl⟩
  · by_cases hbig : a = -2147483648 ∧ b = -1
    · obtain ⟨rfl, rfl⟩ := hbig
      have ho : overB 2147483648 = true := by decide
      go_enter Tryd.func86, Tryd.ntmps86
      go_wp2_with (first | (go_at_call 128; refine (size_any _ (by assumption) _).mono ?_; rintro e w' ⟨rfl, rfl⟩) | (go_at_call 127; refine (Fits_any _ _).mono ?_; rintro e w' ⟨rfl, rfl⟩))
      go_ret2
      exact ⟨ret_ib rfl rfl, rfl⟩
    · have hw := tdiv_bd ha hb0 hbig
      obtain ⟨q0, q1⟩ := quo_bd (b := b) ha
      have hne : divB a b = false := by
        unfold divB
        have h1 : (b == 0) = false := by simpa using hb0
        rw [h1]
        cases h2 : (a == -2147483648) <;> cases h3 : (b == -1) <;> simp_all
      have hr : divR a b = a.tdiv b := by unfold divR; rw [hne]; simp
      have b1 : 1 ≤ (b.natAbs : Int) := by omega
      have a1 : 0 ≤ (a.natAbs : Int) := by omega
      have a2 : (a.natAbs : Int) ≤ 2147483648 := by unfold isW at ha; omega
      have b2 : (b.natAbs : Int) ≤ 2147483648 := by unfold isW at hb; omega
      have same : ((a < 0) ↔ (b < 0)) → Hid (a.tdiv b = (a.natAbs : Int) / (b.natAbs : Int)) ∧ overB ((a.natAbs : Int) / (b.natAbs : Int)) = false ∧ (a.natAbs : Int) / (b.natAbs : Int) ≤ 2147483647 := fun hs => by
        have hq := tdiv_same hs
        rw [hq] at hw
        obtain ⟨w0, w1⟩ := hw
        exact ⟨Lib.hid hq, by unfold overB; simp; omega, w1⟩
      have other : ¬ ((a < 0) ↔ (b < 0)) → Hid (a.tdiv b = -((a.natAbs : Int) / (b.natAbs : Int))) ∧ overB (-((a.natAbs : Int) / (b.natAbs : Int))) = false := fun hs => by
        have hq := tdiv_other hs
        rw [hq] at hw
        obtain ⟨w0, w1⟩ := hw
        exact ⟨Lib.hid hq, by unfold overB; simp; omega⟩
      have Hr := Lib.hid hr
      have Hne := Lib.hid hne
      clear hr hne hbig hw
      generalize hx : (a.natAbs : Int) = x at *
      generalize hy : (b.natAbs : Int) = y at *
      have Hx := Lib.hid hx
      have Hy := Lib.hid hy
      clear hx hy
      by_cases sa : a < 0 <;> by_cases sb : b < 0
      · obtain ⟨Hq, ho, q2⟩ := same ⟨fun _ => sb, fun _ => sa⟩
        clear same other
        have ea : decide (a < 0) = true := by simpa using sa
        have eb : decide (b < 0) = true := by simpa using sb
        go_enter Tryd.func86, Tryd.ntmps86
        go_wp2_with fail
        refine (size_as Hx ha _).mono ?_
        rintro e w' ⟨rfl, rfl⟩
        go_wp2_with fail
        refine (size_as Hy hb _).mono ?_
        rintro e w' ⟨rfl, rfl⟩
        go_wp2_with (go_at_call 127; refine (Fits_any _ _).mono ?_; rintro e w' ⟨rfl, rfl⟩)
        go_ret2
        exact ⟨ret_ib (by rw [Hr.out, Hq.out]) Hne.out.symm, rfl⟩
      · obtain ⟨Hq, ho⟩ := other (fun h => sb (h.1 sa))
        clear same other
        have ea : decide (a < 0) = true := by simpa using sa
        have eb : decide (b < 0) = false := by simpa using sb
        go_enter Tryd.func86, Tryd.ntmps86
        go_wp2_with fail
        refine (size_as Hx ha _).mono ?_
        rintro e w' ⟨rfl, rfl⟩
        go_wp2_with fail
        refine (size_as Hy hb _).mono ?_
        rintro e w' ⟨rfl, rfl⟩
        go_wp2_with (go_at_call 127; refine (Fits_any _ _).mono ?_; rintro e w' ⟨rfl, rfl⟩)
        go_ret2
        exact ⟨ret_ib (by rw [Hr.out, Hq.out]) Hne.out.symm, rfl⟩
      · obtain ⟨Hq, ho⟩ := other (fun h => sa (h.2 sb))
        clear same other
        have ea : decide (a < 0) = false := by simpa using sa
        have eb : decide (b < 0) = true := by simpa using sb
        go_enter Tryd.func86, Tryd.ntmps86
        go_wp2_with fail
        refine (size_as Hx ha _).mono ?_
        rintro e w' ⟨rfl, rfl⟩
        go_wp2_with fail
        refine (size_as Hy hb _).mono ?_
        rintro e w' ⟨rfl, rfl⟩
        go_wp2_with (go_at_call 127; refine (Fits_any _ _).mono ?_; rintro e w' ⟨rfl, rfl⟩)
        go_ret2
        exact ⟨ret_ib (by rw [Hr.out, Hq.out]) Hne.out.symm, rfl⟩
      · obtain ⟨Hq, ho, q2⟩ := same ⟨fun h => absurd h sa, fun h => absurd h sb⟩
        clear same other
        have ea : decide (a < 0) = false := by simpa using sa
        have eb : decide (b < 0) = false := by simpa using sb
        go_enter Tryd.func86, Tryd.ntmps86
        go_wp2_with fail
        refine (size_as Hx ha _).mono ?_
        rintro e w' ⟨rfl, rfl⟩
        go_wp2_with fail
        refine (size_as Hy hb _).mono ?_
        rintro e w' ⟨rfl, rfl⟩
        go_wp2_with (go_at_call 127; refine (Fits_any _ _).mono ?_; rintro e w' ⟨rfl, rfl⟩)
        go_ret2
        exact ⟨ret_ib (by rw [Hr.out, Hq.out]) Hne.out.symm, rfl⟩
theorem natAbs_mod {a b : Int} : ((a.natAbs : Int) % (b.natAbs : Int)) = ((a.tmod b).natAbs : Int) := by
  rw [Int.natAbs_tmod, ← Int.natCast_emod]
theorem tmod_sign {a b : Int} : (a < 0 → a.tmod b ≤ 0) ∧ (0 ≤ a → 0 ≤ a.tmod b) := by
  refine ⟨fun h => ?_, fun h => Int.tmod_nonneg b h⟩
  have := Int.tmod_nonneg (a := -a) b (by omega)
  rw [Int.neg_tmod] at this
  omega
theorem RRem_any (a b : Int) (ha : isW a) (hb : isW b) (w : World) : Calls Tryd.prog 87 #[.int .i32 a, .int .i32 b] w fun e w' => e = .returned (.tuple #[.int .i32 (remR a b), .bool (b == 0)]) ∧ w = w' := by
  by_cases hb0 : b = 0
  · subst hb0
    go_enter Tryd.func87, Tryd.ntmps87
    go_wp2
    go_ret2
    exact ⟨ret_ib rfl rfl, rfl⟩
  · have hw := tmod_bd (b := b) ha
    obtain ⟨w0, w1⟩ := hw
    have hm := natAbs_mod (a := a) (b := b)
    have hsg := tmod_sign (a := a) (b := b)
    have h1 : (b == 0) = false := by simpa using hb0
    have hr : remR a b = a.tmod b := by unfold remR; rw [h1]; simp
    have m0 : 0 ≤ (a.natAbs : Int) % (b.natAbs : Int) := by omega
    have m1 : (a.natAbs : Int) % (b.natAbs : Int) ≤ 2147483648 := by omega
    have b1 : 1 ≤ (b.natAbs : Int) := by omega
    have pos : ¬ a < 0 → Hid (a.tmod b = (a.natAbs : Int) % (b.natAbs : Int)) := fun h => Lib.hid (by have := hsg.2 (by omega); omega)
    have neg : a < 0 → Hid (a.tmod b = -((a.natAbs : Int) % (b.natAbs : Int))) := fun h => Lib.hid (by have := hsg.1 h; omega)
    have hp : ¬ a < 0 → (a.natAbs : Int) % (b.natAbs : Int) ≤ 2147483647 := fun h => by have := hsg.2 (by omega); omega
    have Hr := Lib.hid hr
    clear hr hm hsg
    by_cases sa : a < 0
    · have Hq := neg sa
      clear neg pos hp
      go_enter Tryd.func87, Tryd.ntmps87
      go_wp2_with (first | (go_at_call 128; refine (size_any _ (by assumption) _).mono ?_; rintro e w' ⟨rfl, rfl⟩))
      go_ret2
      exact ⟨ret_ib (by rw [Hr.out, Hq.out]) h1.symm, rfl⟩
    · have Hq := pos sa
      have m2 := hp sa
      clear neg pos hp
      go_enter Tryd.func87, Tryd.ntmps87
      go_wp2_with (first | (go_at_call 128; refine (size_any _ (by assumption) _).mono ?_; rintro e w' ⟨rfl, rfl⟩))
      go_ret2
      exact ⟨ret_ib (by rw [Hr.out, Hq.out]) h1.symm, rfl⟩
end Go.Proofs.YtblckajejohlbaaDoor.W1
/- Contracts of the loops of the reference of layer 1: shifting place by place. -/
set_option linter.unusedVariables false
set_option linter.unusedSimpArgs false
namespace Go.Proofs.YtblckajejohlbaaDoor.W1
open Go Go.RowKit

theorem wrap32_twice (a : Int) (k : Nat) : wrap32 (2 * wrap32 (a * 2 ^ k)) = wrap32 (a * 2 ^ (k + 1)) := by
  rw [Int.pow_succ, ← Int.mul_assoc]
  generalize a * 2 ^ k = x
  unfold wrap32
  omega
theorem RShl_any (a n : Int) (ha : isW a) (hn : isW n) (w : World) : Calls Tryd.prog 91 #[.int .i32 a, .int .i32 n] w fun e w' => e = .returned (.int .i32 (shlR a n)) ∧ w = w' := by
  have hs : wrap32 (a * 2 ^ 0) = a := by rw [Int.pow_zero, Int.mul_one]; exact wrap32_in ha
  have Hs := Lib.hid hs
  clear hs
  go_enter Tryd.func91, Tryd.ntmps91
  go_wp2
  go_loop [5, 6] (fun t i => ∃ k : Nat, k ≤ plc n ∧ i = .int .i64 k ∧ t = .int .i32 (wrap32 (a * 2 ^ k))) (fun _ i => 32 - (intOf i).toNat)
  case atStart => exact ⟨0, Nat.zero_le _, rfl, by rw [Hs.out]⟩
  case round =>
    obtain ⟨k, hk, rfl, rfl⟩ := hrel
    have hk' := hk
    unfold plc at hk'
    have hW := isW_wrap32 (a * 2 ^ k)
    by_cases hlt : k < plc n
    · have hlt' := hlt
      unfold plc at hlt'
      have c1 : (k : Int) < n % 4294967296 := by omega
      have c2 : k < 32 := by omega
      have Ht := Lib.hid (wrap32_twice a k)
      generalize hx : wrap32 (a * 2 ^ k) = x at *
      have Hx := Lib.hid hx
      clear hx
      have hd : isD (2 * x) := by unfold isW at hW; exact ⟨by omega, by omega⟩
      have hW' := hW
      obtain ⟨x0, x1⟩ := hW'
      clear hk' hlt'
      go_wp2_with (first | (go_at_call 129; refine (Unsigned_any _ hn _).mono ?_; rintro e w' ⟨rfl, rfl⟩) | (go_at_call 88; refine (Wrap_any _ hd _).mono ?_; rintro e w' ⟨rfl, rfl⟩))
      go_round
      case rel => exact ⟨k + 1, by omega, by go_num, by rw [Ht.out]⟩
      case measure => simp [intOf]; omega
    · have hkn : k = plc n := by omega
      have c1 : ¬ ((k : Int) < n % 4294967296 ∧ k < 32) := by unfold plc at hlt; omega
      have hfin : wrap32 (a * 2 ^ k) = shlR a n := by unfold shlR; rw [hkn]
      have Hf := Lib.hid hfin
      clear hfin hkn
      by_cases c2 : (k : Int) < n % 4294967296
      · have c3 : ¬ k < 32 := fun h => c1 ⟨c2, h⟩
        go_wp2_with (first | (go_at_call 129; refine (Unsigned_any _ hn _).mono ?_; rintro e w' ⟨rfl, rfl⟩))
        go_ret
        exact ⟨ret_i Hf.out, rfl⟩
      · go_wp2_with (first | (go_at_call 129; refine (Unsigned_any _ hn _).mono ?_; rintro e w' ⟨rfl, rfl⟩))
        go_ret
        exact ⟨ret_i Hf.out, rfl⟩
theorem half_pow (x : Int) (k : Nat) : x / 2 ^ k / 2 = x / 2 ^ (k + 1) := by
  rw [Int.pow_succ, Int.ediv_ediv_of_nonneg (Int.pow_nonneg (by omega))]
theorem shr_bd (a : Int) (k : Nat) : 0 ≤ a % 4294967296 / 2 ^ k ∧ a % 4294967296 / 2 ^ k ≤ 4294967295 := by
  have h0 : 0 ≤ a % 4294967296 := by omega
  refine ⟨Int.ediv_nonneg h0 (Int.pow_nonneg (by omega)), ?_⟩
  have := Int.ediv_le_self (b := 2 ^ k) h0
  omega
theorem RShr_any (a n : Int) (ha : isW a) (hn : isW n) (w : World) : Calls Tryd.prog 92 #[.int .i32 a, .int .i32 n] w fun e w' => e = .returned (.int .i32 (shrR a n)) ∧ w = w' := by
  have hs : a % 4294967296 / 2 ^ 0 = a % 4294967296 := by rw [Int.pow_zero, Int.ediv_one]
  have Hs := Lib.hid hs
  clear hs
  go_enter Tryd.func92, Tryd.ntmps92
  go_wp2_with (first | (go_at_call 129; refine (Unsigned_any _ ha _).mono ?_; rintro e w' ⟨rfl, rfl⟩))
  go_loop [5, 6] (fun t i => ∃ k : Nat, k ≤ plc n ∧ i = .int .i64 k ∧ t = .int .i64 (a % 4294967296 / 2 ^ k)) (fun _ i => 32 - (intOf i).toNat)
  case atStart => exact ⟨0, Nat.zero_le _, rfl, by rw [Hs.out]⟩
  case round =>
    obtain ⟨k, hk, rfl, rfl⟩ := hrel
    have hk' := hk
    unfold plc at hk'
    obtain ⟨x0, x1⟩ := shr_bd a k
    by_cases hlt : k < plc n
    · have hlt' := hlt
      unfold plc at hlt'
      have c1 : (k : Int) < n % 4294967296 := by omega
      have c2 : k < 32 := by omega
      have Ht := Lib.hid (half_pow (a % 4294967296) k)
      generalize hx : a % 4294967296 / 2 ^ k = x at *
      have Hx := Lib.hid hx
      clear hx
      clear hk' hlt'
      go_wp2_with (first | (go_at_call 129; refine (Unsigned_any _ hn _).mono ?_; rintro e w' ⟨rfl, rfl⟩))
      go_round
      case rel => exact ⟨k + 1, by omega, by go_num, by rw [Ht.out]⟩
      case measure => simp [intOf]; omega
    · have hkn : k = plc n := by omega
      have c1 : ¬ ((k : Int) < n % 4294967296 ∧ k < 32) := by unfold plc at hlt; omega
      have hfin : wrap32 (a % 4294967296 / 2 ^ k) = shrR a n := by unfold shrR; rw [hkn]
      have hd : isD (a % 4294967296 / 2 ^ k) := ⟨by omega, by omega⟩
      have Hf := Lib.hid hfin
      clear hfin hkn
      by_cases c2 : (k : Int) < n % 4294967296
      · have c3 : ¬ k < 32 := fun h => c1 ⟨c2, h⟩
        go_wp2_with (first | (go_at_call 129; refine (Unsigned_any _ hn _).mono ?_; rintro e w' ⟨rfl, rfl⟩) | (go_at_call 88; refine (Wrap_any _ hd _).mono ?_; rintro e w' ⟨rfl, rfl⟩))
        go_ret
        exact ⟨ret_i Hf.out, rfl⟩
      · go_wp2_with (first | (go_at_call 129; refine (Unsigned_any _ hn _).mono ?_; rintro e w' ⟨rfl, rfl⟩) | (go_at_call 88; refine (Wrap_any _ hd _).mono ?_; rintro e w' ⟨rfl, rfl⟩))
        go_ret
        exact ⟨ret_i Hf.out, rfl⟩
end Go.Proofs.YtblckajejohlbaaDoor.W1
/- The reference's operators on bits, one bit after the other, are those of the machine. Plain Lean. -/
set_option linter.unusedVariables false
set_option linter.unusedSimpArgs false
namespace Go.Proofs.YtblckajejohlbaaDoor.L14
open Go L8 L10

def bvO (o : Nat) (x y : BitVec 32) : BitVec 32 := if o = 9 then x &&& y else if o = 10 then x ||| y else if o = 11 then x ^^^ y else ~~~x
def bitO (o : Nat) (p q : Int) : Int := if o = 9 then p * q else if o = 10 then p + q - p * q else if o = 11 then (p + q) % 2 else 1 - p
def bsum (o : Nat) (X Y : Int) : Nat → Int
  | 0 => 0
  | i + 1 => bsum o X Y i + bitO o (X / 2 ^ i % 2) (Y / 2 ^ i % 2) * 2 ^ i
def sumN (f : Nat) : Nat → Nat
  | 0 => 0
  | i + 1 => sumN f i + (f / 2 ^ i % 2) * 2 ^ i
theorem sumN_mod (f : Nat) : ∀ n, sumN f n = f % 2 ^ n
  | 0 => by rw [sumN, Nat.pow_zero, Nat.mod_one]
  | n + 1 => by rw [sumN, sumN_mod f n, Nat.mod_pow_succ, Nat.mul_comm]
theorem bit_nat (x : BitVec 32) (i : Nat) : (x.toNat : Int) / 2 ^ i % 2 = ((x.getLsbD i).toNat : Int) := by
  have h : x.toNat / 2 ^ i % 2 = (x.getLsbD i).toNat := by
    rw [← Nat.toNat_testBit]
    rfl
  rw [← h]
  norm_cast
theorem bit_is (o : Nat) (x y : BitVec 32) (i : Nat) (hi : i < 32) : bitO o ((x.getLsbD i).toNat : Int) ((y.getLsbD i).toNat : Int) = (((bvO o x y).getLsbD i).toNat : Int) := by
  unfold bitO bvO
  by_cases h9 : o = 9
  · rw [if_pos h9, if_pos h9, BitVec.getLsbD_and]
    cases x.getLsbD i <;> cases y.getLsbD i <;> rfl
  rw [if_neg h9, if_neg h9]
  by_cases h10 : o = 10
  · rw [if_pos h10, if_pos h10, BitVec.getLsbD_or]
    cases x.getLsbD i <;> cases y.getLsbD i <;> rfl
  rw [if_neg h10, if_neg h10]
  by_cases h11 : o = 11
  · rw [if_pos h11, if_pos h11, BitVec.getLsbD_xor]
    cases x.getLsbD i <;> cases y.getLsbD i <;> rfl
  rw [if_neg h11, if_neg h11, BitVec.getLsbD_not, decide_eq_true hi, Bool.true_and]
  cases x.getLsbD i <;> rfl
theorem bsum_is (o : Nat) (x y : BitVec 32) : ∀ n, n ≤ 32 → bsum o (x.toNat : Int) (y.toNat : Int) n = (sumN (bvO o x y).toNat n : Int)
  | 0, _ => rfl
  | n + 1, h => by
    rw [bsum, sumN, bsum_is o x y n (by omega), bit_nat, bit_nat, bit_is o x y n (by omega), ← bit_nat]
    norm_cast
theorem bv_nat (a : Int) : ((BitVec.ofInt 32 a).toNat : Int) = a % 4294967296 := by
  rw [BitVec.toNat_ofInt]
  have : (0 : Int) ≤ a % 4294967296 := Int.emod_nonneg _ (by decide)
  show ((a % 4294967296).toNat : Int) = _
  omega
theorem bsum_rng (o : Nat) (a b : Int) (n : Nat) (h : n ≤ 32) : 0 ≤ bsum o (a % 4294967296) (b % 4294967296) n ∧ bsum o (a % 4294967296) (b % 4294967296) n ≤ 4294967295 := by
  rw [← bv_nat a, ← bv_nat b, bsum_is o _ _ n h, sumN_mod]
  have h1 : (bvO o (BitVec.ofInt 32 a) (BitVec.ofInt 32 b)).toNat % 2 ^ n ≤ (bvO o (BitVec.ofInt 32 a) (BitVec.ofInt 32 b)).toNat := Nat.mod_le _ _
  have h2 := (bvO o (BitVec.ofInt 32 a) (BitVec.ofInt 32 b)).isLt
  omega
/-- What the reference reckons is what the operator gives. -/
theorem bsum_ap (o : Nat) (a b : Int) (ho : o = 9 ∨ o = 10 ∨ o = 11 ∨ o = 25) : apO o a b = some (IntKind.i32.wrap (bsum o (a % 4294967296) (b % 4294967296) 32)) := by
  rw [← bv_nat a, ← bv_nat b, bsum_is o _ _ 32 (Nat.le_refl _), sumN_mod, Nat.mod_eq_of_lt (bvO o _ _).isLt, wrap_toInt]
  rcases ho with rfl | rfl | rfl | rfl
  · show some (bits .and .i32 a b) = _
    rw [and_bv]; rfl
  · show some (bits .or .i32 a b) = _
    rw [or_bv]; rfl
  · show some (bits .xor .i32 a b) = _
    rw [xor_bv]; rfl
  · show some (bits .xor .i32 (-1) a) = _
    rw [xor_bv, ones_xor]; rfl
end Go.Proofs.YtblckajejohlbaaDoor.L14
