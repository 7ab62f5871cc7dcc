/- The program: Apply. -/
import Derived.Test.YtimbiobonigdmaaGreatDoorM11
import Derived.Test.YtimbiobonigdmaaGreatDoorFob
import Derived.Test.YtimbiobonigdmaaGreatDoorM06
set_option linter.unusedVariables false
set_option linter.unusedSimpArgs false
set_option linter.unusedVariables false
set_option linter.unusedSimpArgs false
namespace Go.Proofs.YtimbiobonigdmaaGreatDoor
open Go Go.RowKit L8 L10 L14

theorem fn_some (g : Nat) (cs : Array Value) (W : World) : (binOp .neq 67 (.func (.func g) #[] cs) .nilFunc).run Tryz.prog W = .ok (.bool true) W := by
  kernel_rfl
theorem fn_none (W : World) : (binOp .neq 67 .nilFunc .nilFunc).run Tryz.prog W = .ok (.bool false) W := by
  kernel_rfl
set_option maxRecDepth 100000 in
theorem apply_6 (a b : Int) (ha : W1.isW a) (hb : W1.isW b) (w : World) : Calls Tryz.prog 12 #[.int .u8 6, .int .i32 a, .int .i32 b] w fun e w' => e = .returned (.tuple #[.int .i32 (wrap32 (a + b)), .bool true]) ∧ Below w.heap.size w w' := by
  have C := Lib.hid (W1.Sum_any a b ha hb w)
  have D := Lib.hid (cert_6 w)
  generalize wrap32 (a + b) = r at *
  have nf := fn_some
  go_enter Tryz.func12, Tryz.ntmps12
  go_wp2_with (first | (go_at_call 28; (with_reducible refine (D.out).mono ?_); rintro e w' ⟨rfl, rfl⟩) | (go_at_call 46; (with_reducible refine (C.out).mono ?_); rintro e w' ⟨rfl, rfl⟩))
  go_ret2
  exact ⟨rfl, b0 _⟩
set_option maxRecDepth 100000 in
theorem apply_7 (a b : Int) (ha : W1.isW a) (hb : W1.isW b) (w : World) : Calls Tryz.prog 12 #[.int .u8 7, .int .i32 a, .int .i32 b] w fun e w' => e = .returned (.tuple #[.int .i32 (wrap32 (a - b)), .bool true]) ∧ Below w.heap.size w w' := by
  have C := Lib.hid (W1.Diff_any a b ha hb w)
  have D := Lib.hid (cert_7 w)
  generalize wrap32 (a - b) = r at *
  have nf := fn_some
  go_enter Tryz.func12, Tryz.ntmps12
  go_wp2_with (first | (go_at_call 28; (with_reducible refine (D.out).mono ?_); rintro e w' ⟨rfl, rfl⟩) | (go_at_call 47; (with_reducible refine (C.out).mono ?_); rintro e w' ⟨rfl, rfl⟩))
  go_ret2
  exact ⟨rfl, b0 _⟩
set_option maxRecDepth 100000 in
theorem apply_8 (a b : Int) (ha : W1.isW a) (hb : W1.isW b) (w : World) : Calls Tryz.prog 12 #[.int .u8 8, .int .i32 a, .int .i32 b] w fun e w' => e = .returned (.tuple #[.int .i32 (wrap32 (a * b)), .bool true]) ∧ Below w.heap.size w w' := by
  have C := Lib.hid (W1.Prod_any a b ha hb w)
  have D := Lib.hid (cert_8 w)
  generalize wrap32 (a * b) = r at *
  have nf := fn_some
  go_enter Tryz.func12, Tryz.ntmps12
  go_wp2_with (first | (go_at_call 28; (with_reducible refine (D.out).mono ?_); rintro e w' ⟨rfl, rfl⟩) | (go_at_call 48; (with_reducible refine (C.out).mono ?_); rintro e w' ⟨rfl, rfl⟩))
  go_ret2
  exact ⟨rfl, b0 _⟩
set_option maxRecDepth 100000 in
theorem apply_9 (a b : Int) (ha : W1.isW a) (hb : W1.isW b) (w : World) : Calls Tryz.prog 12 #[.int .u8 9, .int .i32 a, .int .i32 b] w fun e w' => e = .returned (.tuple #[.int .i32 (bits .and .i32 a b), .bool true]) ∧ Below w.heap.size w w' := by
  have C := Lib.hid (cl_2 a b w)
  have D := Lib.hid (cert_9 w)
  generalize bits .and .i32 a b = r at *
  have nf := fn_some
  go_enter Tryz.func12, Tryz.ntmps12
  go_wp2_with (first | (go_at_call 28; (with_reducible refine (D.out).mono ?_); rintro e w' ⟨rfl, rfl⟩) | (go_at_call 49; (with_reducible refine (C.out).mono ?_); rintro e w' ⟨rfl, rfl⟩))
  go_ret2
  exact ⟨rfl, b0 _⟩
set_option maxRecDepth 100000 in
theorem apply_10 (a b : Int) (ha : W1.isW a) (hb : W1.isW b) (w : World) : Calls Tryz.prog 12 #[.int .u8 10, .int .i32 a, .int .i32 b] w fun e w' => e = .returned (.tuple #[.int .i32 (bits .or .i32 a b), .bool true]) ∧ Below w.heap.size w w' := by
  have C := Lib.hid (cl_3 a b w)
  have D := Lib.hid (cert_10 w)
  generalize bits .or .i32 a b = r at *
  have nf := fn_some
  go_enter Tryz.func12, Tryz.ntmps12
  go_wp2_with (first | (go_at_call 28; (with_reducible refine (D.out).mono ?_); rintro e w' ⟨rfl, rfl⟩) | (go_at_call 50; (with_reducible refine (C.out).mono ?_); rintro e w' ⟨rfl, rfl⟩))
  go_ret2
  exact ⟨rfl, b0 _⟩
set_option maxRecDepth 100000 in
theorem apply_11 (a b : Int) (ha : W1.isW a) (hb : W1.isW b) (w : World) : Calls Tryz.prog 12 #[.int .u8 11, .int .i32 a, .int .i32 b] w fun e w' => e = .returned (.tuple #[.int .i32 (bits .xor .i32 a b), .bool true]) ∧ Below w.heap.size w w' := by
  have C := Lib.hid (cl_4 a b w)
  have D := Lib.hid (cert_11 w)
  generalize bits .xor .i32 a b = r at *
  have nf := fn_some
  go_enter Tryz.func12, Tryz.ntmps12
  go_wp2_with (first | (go_at_call 28; (with_reducible refine (D.out).mono ?_); rintro e w' ⟨rfl, rfl⟩) | (go_at_call 51; (with_reducible refine (C.out).mono ?_); rintro e w' ⟨rfl, rfl⟩))
  go_ret2
  exact ⟨rfl, b0 _⟩
set_option maxRecDepth 100000 in
theorem apply_12 (a b : Int) (ha : W1.isW a) (hb : W1.isW b) (w : World) : Calls Tryz.prog 12 #[.int .u8 12, .int .i32 a, .int .i32 b] w fun e w' => e = .returned (.tuple #[.int .i32 (W1.shlR a b), .bool true]) ∧ Below w.heap.size w w' := by
  have C := Lib.hid (W1.Shl_any a b w)
  have D := Lib.hid (cert_12 w)
  generalize W1.shlR a b = r at *
  have nf := fn_some
  go_enter Tryz.func12, Tryz.ntmps12
  go_wp2_with (first | (go_at_call 28; (with_reducible refine (D.out).mono ?_); rintro e w' ⟨rfl, rfl⟩) | (go_at_call 52; (with_reducible refine (C.out).mono ?_); rintro e w' ⟨rfl, rfl⟩))
  go_ret2
  exact ⟨rfl, b0 _⟩
set_option maxRecDepth 100000 in
theorem apply_13 (a b : Int) (ha : W1.isW a) (hb : W1.isW b) (w : World) : Calls Tryz.prog 12 #[.int .u8 13, .int .i32 a, .int .i32 b] w fun e w' => e = .returned (.tuple #[.int .i32 (W1.shrR a b), .bool true]) ∧ Below w.heap.size w w' := by
  have C := Lib.hid (W1.Shr_any a b w)
  have D := Lib.hid (cert_13 w)
  generalize W1.shrR a b = r at *
  have nf := fn_some
  go_enter Tryz.func12, Tryz.ntmps12
  go_wp2_with (first | (go_at_call 28; (with_reducible refine (D.out).mono ?_); rintro e w' ⟨rfl, rfl⟩) | (go_at_call 53; (with_reducible refine (C.out).mono ?_); rintro e w' ⟨rfl, rfl⟩))
  go_ret2
  exact ⟨rfl, b0 _⟩
set_option maxRecDepth 100000 in
theorem apply_24 (a b : Int) (ha : W1.isW a) (hb : W1.isW b) (w : World) : Calls Tryz.prog 12 #[.int .u8 24, .int .i32 a, .int .i32 b] w fun e w' => e = .returned (.tuple #[.int .i32 (wrap32 (0 - a)), .bool true]) ∧ Below w.heap.size w w' := by
  have C := Lib.hid (cl_11 a b ha w)
  have D := Lib.hid (cert_24 w)
  generalize wrap32 (0 - a) = r at *
  have nf := fn_some
  go_enter Tryz.func12, Tryz.ntmps12
  go_wp2_with (first | (go_at_call 28; (with_reducible refine (D.out).mono ?_); rintro e w' ⟨rfl, rfl⟩) | (go_at_call 61; (with_reducible refine (C.out).mono ?_); rintro e w' ⟨rfl, rfl⟩))
  go_ret2
  exact ⟨rfl, b0 _⟩
set_option maxRecDepth 100000 in
theorem apply_25 (a b : Int) (ha : W1.isW a) (hb : W1.isW b) (w : World) : Calls Tryz.prog 12 #[.int .u8 25, .int .i32 a, .int .i32 b] w fun e w' => e = .returned (.tuple #[.int .i32 (bits .xor .i32 (-1) a), .bool true]) ∧ Below w.heap.size w w' := by
  have C := Lib.hid (cl_12 a b ha w)
  have D := Lib.hid (cert_25 w)
  generalize bits .xor .i32 (-1) a = r at *
  have nf := fn_some
  go_enter Tryz.func12, Tryz.ntmps12
  go_wp2_with (first | (go_at_call 28; (with_reducible refine (D.out).mono ?_); rintro e w' ⟨rfl, rfl⟩) | (go_at_call 62; (with_reducible refine (C.out).mono ?_); rintro e w' ⟨rfl, rfl⟩))
  go_ret2
  exact ⟨rfl, b0 _⟩
set_option maxRecDepth 100000 in
theorem apply_14 (a b : Int) (ha : W1.isW a) (hb : W1.isW b) (w : World) : Calls Tryz.prog 12 #[.int .u8 14, .int .i32 a, .int .i32 b] w fun e w' => e = .returned (.tuple #[.int .i32 (b01 (a == b)), .bool true]) ∧ Below w.heap.size w w' := by
  have H := boxS_new w 92 #[.func (.func 54) #[] #[]]
  have C := Lib.hid (wh_14 a b w.heap.size _ ((H.cell 0).trans rfl))
  have D := Lib.hid (cert_14 w)
  have B := Lib.hid (bal (b0 w) (.cells #[.func (.func 54) #[] #[]] 92))
  clear H
  generalize b01 (a == b) = r at *
  have nf := fn_some
  go_enter Tryz.func12, Tryz.ntmps12
  go_wp2_with (first | (go_at_call 28; (with_reducible refine (D.out).mono ?_); rintro e w' ⟨rfl, rfl⟩) | (go_at_call 44; (with_reducible refine (C.out).mono ?_); rintro e w' ⟨rfl, rfl⟩))
  go_ret2
  exact ⟨rfl, B.out⟩
set_option maxRecDepth 100000 in
theorem apply_15 (a b : Int) (ha : W1.isW a) (hb : W1.isW b) (w : World) : Calls Tryz.prog 12 #[.int .u8 15, .int .i32 a, .int .i32 b] w fun e w' => e = .returned (.tuple #[.int .i32 (b01 (a != b)), .bool true]) ∧ Below w.heap.size w w' := by
  have H := boxS_new w 92 #[.func (.func 55) #[] #[]]
  have C := Lib.hid (wh_15 a b w.heap.size _ ((H.cell 0).trans rfl))
  have D := Lib.hid (cert_15 w)
  have B := Lib.hid (bal (b0 w) (.cells #[.func (.func 55) #[] #[]] 92))
  clear H
  generalize b01 (a != b) = r at *
  have nf := fn_some
  go_enter Tryz.func12, Tryz.ntmps12
  go_wp2_with (first | (go_at_call 28; (with_reducible refine (D.out).mono ?_); rintro e w' ⟨rfl, rfl⟩) | (go_at_call 44; (with_reducible refine (C.out).mono ?_); rintro e w' ⟨rfl, rfl⟩))
  go_ret2
  exact ⟨rfl, B.out⟩
set_option maxRecDepth 100000 in
theorem apply_16 (a b : Int) (ha : W1.isW a) (hb : W1.isW b) (w : World) : Calls Tryz.prog 12 #[.int .u8 16, .int .i32 a, .int .i32 b] w fun e w' => e = .returned (.tuple #[.int .i32 (b01 (decide (a < b))), .bool true]) ∧ Below w.heap.size w w' := by
  have H := boxS_new w 92 #[.func (.func 56) #[] #[]]
  have C := Lib.hid (wh_16 a b w.heap.size _ ((H.cell 0).trans rfl))
  have D := Lib.hid (cert_16 w)
  have B := Lib.hid (bal (b0 w) (.cells #[.func (.func 56) #[] #[]] 92))
  clear H
  generalize b01 (decide (a < b)) = r at *
  have nf := fn_some
  go_enter Tryz.func12, Tryz.ntmps12
  go_wp2_with (first | (go_at_call 28; (with_reducible refine (D.out).mono ?_); rintro e w' ⟨rfl, rfl⟩) | (go_at_call 44; (with_reducible refine (C.out).mono ?_); rintro e w' ⟨rfl, rfl⟩))
  go_ret2
  exact ⟨rfl, B.out⟩
set_option maxRecDepth 100000 in
theorem apply_17 (a b : Int) (ha : W1.isW a) (hb : W1.isW b) (w : World) : Calls Tryz.prog 12 #[.int .u8 17, .int .i32 a, .int .i32 b] w fun e w' => e = .returned (.tuple #[.int .i32 (b01 (decide (b < a))), .bool true]) ∧ Below w.heap.size w w' := by
  have H := boxS_new w 92 #[.func (.func 57) #[] #[]]
  have C := Lib.hid (wh_17 a b w.heap.size _ ((H.cell 0).trans rfl))
  have D := Lib.hid (cert_17 w)
  have B := Lib.hid (bal (b0 w) (.cells #[.func (.func 57) #[] #[]] 92))
  clear H
  generalize b01 (decide (b < a)) = r at *
  have nf := fn_some
  go_enter Tryz.func12, Tryz.ntmps12
  go_wp2_with (first | (go_at_call 28; (with_reducible refine (D.out).mono ?_); rintro e w' ⟨rfl, rfl⟩) | (go_at_call 44; (with_reducible refine (C.out).mono ?_); rintro e w' ⟨rfl, rfl⟩))
  go_ret2
  exact ⟨rfl, B.out⟩
set_option maxRecDepth 100000 in
theorem apply_18 (a b : Int) (ha : W1.isW a) (hb : W1.isW b) (w : World) : Calls Tryz.prog 12 #[.int .u8 18, .int .i32 a, .int .i32 b] w fun e w' => e = .returned (.tuple #[.int .i32 (b01 (decide (a ≤ b))), .bool true]) ∧ Below w.heap.size w w' := by
  have H := boxS_new w 92 #[.func (.func 58) #[] #[]]
  have C := Lib.hid (wh_18 a b w.heap.size _ ((H.cell 0).trans rfl))
  have D := Lib.hid (cert_18 w)
  have B := Lib.hid (bal (b0 w) (.cells #[.func (.func 58) #[] #[]] 92))
  clear H
  generalize b01 (decide (a ≤ b)) = r at *
  have nf := fn_some
  go_enter Tryz.func12, Tryz.ntmps12
  go_wp2_with (first | (go_at_call 28; (with_reducible refine (D.out).mono ?_); rintro e w' ⟨rfl, rfl⟩) | (go_at_call 44; (with_reducible refine (C.out).mono ?_); rintro e w' ⟨rfl, rfl⟩))
  go_ret2
  exact ⟨rfl, B.out⟩
set_option maxRecDepth 100000 in
theorem apply_19 (a b : Int) (ha : W1.isW a) (hb : W1.isW b) (w : World) : Calls Tryz.prog 12 #[.int .u8 19, .int .i32 a, .int .i32 b] w fun e w' => e = .returned (.tuple #[.int .i32 (b01 (decide (b ≤ a))), .bool true]) ∧ Below w.heap.size w w' := by
  have H := boxS_new w 92 #[.func (.func 59) #[] #[]]
  have C := Lib.hid (wh_19 a b w.heap.size _ ((H.cell 0).trans rfl))
  have D := Lib.hid (cert_19 w)
  have B := Lib.hid (bal (b0 w) (.cells #[.func (.func 59) #[] #[]] 92))
  clear H
  generalize b01 (decide (b ≤ a)) = r at *
  have nf := fn_some
  go_enter Tryz.func12, Tryz.ntmps12
  go_wp2_with (first | (go_at_call 28; (with_reducible refine (D.out).mono ?_); rintro e w' ⟨rfl, rfl⟩) | (go_at_call 44; (with_reducible refine (C.out).mono ?_); rintro e w' ⟨rfl, rfl⟩))
  go_ret2
  exact ⟨rfl, B.out⟩
set_option maxRecDepth 100000 in
theorem apply_22 (a b : Int) (ha : W1.isW a) (hb : W1.isW b) (w : World) : Calls Tryz.prog 12 #[.int .u8 22, .int .i32 a, .int .i32 b] w fun e w' => e = .returned (.tuple #[.int .i32 (b01 (W1.aftB a b)), .bool true]) ∧ Below w.heap.size w w' := by
  have H := boxS_new w 92 #[.func (.func 60) #[] #[]]
  have C := Lib.hid (wh_22 a b ha hb w.heap.size _ ((H.cell 0).trans rfl))
  have D := Lib.hid (cert_22 w)
  have B := Lib.hid (bal (b0 w) (.cells #[.func (.func 60) #[] #[]] 92))
  clear H
  generalize b01 (W1.aftB a b) = r at *
  have nf := fn_some
  go_enter Tryz.func12, Tryz.ntmps12
  go_wp2_with (first | (go_at_call 28; (with_reducible refine (D.out).mono ?_); rintro e w' ⟨rfl, rfl⟩) | (go_at_call 44; (with_reducible refine (C.out).mono ?_); rintro e w' ⟨rfl, rfl⟩))
  go_ret2
  exact ⟨rfl, B.out⟩
set_option maxRecDepth 100000 in
theorem cert_no (o : Nat) (c6 : ((o : Int) == 6) = false) (c7 : ((o : Int) == 7) = false) (c8 : ((o : Int) == 8) = false) (c9 : ((o : Int) == 9) = false) (c10 : ((o : Int) == 10) = false) (c11 : ((o : Int) == 11) = false) (c12 : ((o : Int) == 12) = false) (c13 : ((o : Int) == 13) = false) (c14 : ((o : Int) == 14) = false) (c15 : ((o : Int) == 15) = false) (c16 : ((o : Int) == 16) = false) (c17 : ((o : Int) == 17) = false) (c18 : ((o : Int) == 18) = false) (c19 : ((o : Int) == 19) = false) (c22 : ((o : Int) == 22) = false) (c24 : ((o : Int) == 24) = false) (c25 : ((o : Int) == 25) = false) (w : World) : Calls Tryz.prog 28 #[.int .u8 (o : Int)] w fun e w' => e = .returned .nilFunc ∧ w = w' := by
  go_enter Tryz.func28, Tryz.ntmps28
  go_wp2
  go_ret
  exact ⟨rfl, rfl⟩
set_option maxRecDepth 100000 in
theorem unc_no (o : Nat) (a b : Int) (d1 : ((o : Int) == 1) = false) (d2 : ((o : Int) == 2) = false) (d3 : ((o : Int) == 3) = false) (d4 : ((o : Int) == 4) = false) (d5 : ((o : Int) == 5) = false) (d20 : ((o : Int) == 20) = false) (d21 : ((o : Int) == 21) = false) (d23 : ((o : Int) == 23) = false) (d26 : ((o : Int) == 26) = false) (w : World) : Calls Tryz.prog 29 #[.int .u8 (o : Int), .int .i32 a, .int .i32 b] w fun e w' => e = .returned (.tuple #[.int .i32 0, .bool true]) ∧ w = w' := by
  go_enter Tryz.func29, Tryz.ntmps29
  go_wp2
  go_ret2
  exact ⟨rfl, rfl⟩
set_option maxRecDepth 100000 in
theorem unc_1 (a b : Int) (ha : W1.isW a) (hb : W1.isW b) (w : World) : Calls Tryz.prog 29 #[.int .u8 1, .int .i32 a, .int .i32 b] w fun e w' => e = .returned (.tuple #[.int .i32 (wrap32 (a + b)), .bool (W1.overB (a + b))]) ∧ w = w' := by
  have C := Lib.hid (W1.Add_any a b ha hb w)
  generalize wrap32 (a + b) = r at *
  generalize W1.overB (a + b) = p at *
  go_enter Tryz.func29, Tryz.ntmps29
  go_wp2_with (go_at_call 63; (with_reducible refine (C.out).mono ?_); rintro e w' ⟨rfl, rfl⟩)
  go_ret2
  exact ⟨rfl, rfl⟩
set_option maxRecDepth 100000 in
theorem unc_2 (a b : Int) (ha : W1.isW a) (hb : W1.isW b) (w : World) : Calls Tryz.prog 29 #[.int .u8 2, .int .i32 a, .int .i32 b] w fun e w' => e = .returned (.tuple #[.int .i32 (wrap32 (a - b)), .bool (W1.overB (a - b))]) ∧ w = w' := by
  have C := Lib.hid (W1.Sub_any a b ha hb w)
  generalize wrap32 (a - b) = r at *
  generalize W1.overB (a - b) = p at *
  go_enter Tryz.func29, Tryz.ntmps29
  go_wp2_with (go_at_call 64; (with_reducible refine (C.out).mono ?_); rintro e w' ⟨rfl, rfl⟩)
  go_ret2
  exact ⟨rfl, rfl⟩
set_option maxRecDepth 100000 in
theorem unc_3 (a b : Int) (ha : W1.isW a) (hb : W1.isW b) (w : World) : Calls Tryz.prog 29 #[.int .u8 3, .int .i32 a, .int .i32 b] w fun e w' => e = .returned (.tuple #[.int .i32 (wrap32 (a * b)), .bool (W1.overB (a * b))]) ∧ w = w' := by
  have C := Lib.hid (W1.Mul_any a b ha hb w)
  generalize wrap32 (a * b) = r at *
  generalize W1.overB (a * b) = p at *
  go_enter Tryz.func29, Tryz.ntmps29
  go_wp2_with (go_at_call 65; (with_reducible refine (C.out).mono ?_); rintro e w' ⟨rfl, rfl⟩)
  go_ret2
  exact ⟨rfl, rfl⟩
set_option maxRecDepth 100000 in
theorem unc_4 (a b : Int) (ha : W1.isW a) (hb : W1.isW b) (w : World) : Calls Tryz.prog 29 #[.int .u8 4, .int .i32 a, .int .i32 b] w fun e w' => e = .returned (.tuple #[.int .i32 (W1.divR a b), .bool (W1.divB a b)]) ∧ w = w' := by
  have C := Lib.hid (W1.Div_any a b ha w)
  generalize W1.divR a b = r at *
  generalize W1.divB a b = p at *
  go_enter Tryz.func29, Tryz.ntmps29
  go_wp2_with (go_at_call 66; (with_reducible refine (C.out).mono ?_); rintro e w' ⟨rfl, rfl⟩)
  go_ret2
  exact ⟨rfl, rfl⟩
set_option maxRecDepth 100000 in
theorem unc_5 (a b : Int) (ha : W1.isW a) (hb : W1.isW b) (w : World) : Calls Tryz.prog 29 #[.int .u8 5, .int .i32 a, .int .i32 b] w fun e w' => e = .returned (.tuple #[.int .i32 (W1.remR a b), .bool ((b == 0))]) ∧ w = w' := by
  have C := Lib.hid (W1.Rem_any a b ha hb w)
  generalize W1.remR a b = r at *
  generalize (b == 0) = p at *
  go_enter Tryz.func29, Tryz.ntmps29
  go_wp2_with (go_at_call 67; (with_reducible refine (C.out).mono ?_); rintro e w' ⟨rfl, rfl⟩)
  go_ret2
  exact ⟨rfl, rfl⟩
set_option maxRecDepth 100000 in
theorem unc_23 (a b : Int) (ha : W1.isW a) (hb : W1.isW b) (w : World) : Calls Tryz.prog 29 #[.int .u8 23, .int .i32 a, .int .i32 b] w fun e w' => e = .returned (.tuple #[.int .i32 (wrap32 (0 - a)), .bool (W1.overB (0 - a))]) ∧ w = w' := by
  have C := Lib.hid (W1.Sub_any 0 a ⟨by decide, by decide⟩ ha w)
  generalize wrap32 (0 - a) = r at *
  generalize W1.overB (0 - a) = p at *
  go_enter Tryz.func29, Tryz.ntmps29
  go_wp2_with (go_at_call 64; (with_reducible refine (C.out).mono ?_); rintro e w' ⟨rfl, rfl⟩)
  go_ret2
  exact ⟨rfl, rfl⟩
set_option maxRecDepth 100000 in
theorem unc_20 (a b : Int) (w : World) : Calls Tryz.prog 29 #[.int .u8 20, .int .i32 a, .int .i32 b] w fun e w' => e = .returned (.tuple #[.int .i32 (bits .and .i32 a b), .bool (!isT a || !isT b)]) ∧ w = w' := by
  have C := Lib.hid (isTruth_any a w)
  have D := Lib.hid (isTruth_any b w)
  generalize isT a = p at *
  generalize isT b = q at *
  go_enter Tryz.func29, Tryz.ntmps29
  cases p
  all_goals
    go_wp2_with (first | (go_at_call 68; (with_reducible refine (C.out).mono ?_); rintro e w' ⟨rfl, rfl⟩) | (go_at_call 68; (with_reducible refine (D.out).mono ?_); rintro e w' ⟨rfl, rfl⟩))
    go_ret2
    exact ⟨by simp, rfl⟩
set_option maxRecDepth 100000 in
theorem unc_21 (a b : Int) (w : World) : Calls Tryz.prog 29 #[.int .u8 21, .int .i32 a, .int .i32 b] w fun e w' => e = .returned (.tuple #[.int .i32 (bits .or .i32 a b), .bool (!isT a || !isT b)]) ∧ w = w' := by
  have C := Lib.hid (isTruth_any a w)
  have D := Lib.hid (isTruth_any b w)
  generalize isT a = p at *
  generalize isT b = q at *
  go_enter Tryz.func29, Tryz.ntmps29
  cases p
  all_goals
    go_wp2_with (first | (go_at_call 68; (with_reducible refine (C.out).mono ?_); rintro e w' ⟨rfl, rfl⟩) | (go_at_call 68; (with_reducible refine (D.out).mono ?_); rintro e w' ⟨rfl, rfl⟩))
    go_ret2
    exact ⟨by simp, rfl⟩
set_option maxRecDepth 100000 in
theorem unc_26 (a b : Int) (ha : W1.isW a) (w : World) : Calls Tryz.prog 29 #[.int .u8 26, .int .i32 a, .int .i32 b] w fun e w' => e = .returned (.tuple #[.int .i32 (wrap32 (1 - a)), .bool (!isT a)]) ∧ w = w' := by
  have C := Lib.hid (isTruth_any a w)
  generalize isT a = p at *
  go_enter Tryz.func29, Tryz.ntmps29
  go_wp2_with (go_at_call 68; (with_reducible refine (C.out).mono ?_); rintro e w' ⟨rfl, rfl⟩)
  go_ret2
  exact ⟨by simp, rfl⟩
end Go.Proofs.YtimbiobonigdmaaGreatDoor
/- The program: Apply is what the chapter's table says. -/
set_option linter.unusedVariables false
set_option linter.unusedSimpArgs false
namespace Go.Proofs.YtimbiobonigdmaaGreatDoor
open Go Go.RowKit L8 L10 L14

/-- What Apply answers. -/
def ApR (w : World) (x : Option Int) (e : Ending) (w' : World) : Prop := e = .returned (apR x) ∧ Below w.heap.size w w'
set_option maxRecDepth 100000 in
theorem apply_unc (o : Nat) (a b : Int) (x : Option Int) (w : World) (C : Calls Tryz.prog 28 #[.int .u8 (o : Int)] w fun e w' => e = .returned .nilFunc ∧ w = w')
    (D : Calls Tryz.prog 29 #[.int .u8 (o : Int), .int .i32 a, .int .i32 b] w fun e w' => UncR x e ∧ w = w') : Calls Tryz.prog 12 #[.int .u8 (o : Int), .int .i32 a, .int .i32 b] w (ApR w x) := by
  have C := Lib.hid C
  have D := Lib.hid D
  have nf := fn_none
  go_enter Tryz.func12, Tryz.ntmps12
  go_wp2_with (first | (go_at_call 28; (with_reducible refine (C.out).mono ?_); rintro e w' ⟨rfl, rfl⟩) | (go_at_call 29; (with_reducible refine (D.out).mono ?_); rintro e w' ⟨⟨r, p, rfl, h1, h2⟩, rfl⟩; have H1 := Lib.hid h1; have H2 := Lib.hid h2; clear h1 h2; cases p))
  · go_ret2
    exact ⟨by rw [H2.out trivial]; rfl, b0 _⟩
  · go_ret2
    exact ⟨by rw [H1.out trivial]; rfl, b0 _⟩
theorem ap_some {w : World} {k : IntKind} {v u : Int} {e : Ending} {w' : World} (hv : v = u) (h : e = .returned (.tuple #[.int .i32 v, .bool true]) ∧ Below w.heap.size w w') : ApR w (some u) e w' := by
  subst hv
  exact h
theorem ap_beq (a b : Int) : (a == b) = decide (a = b) := by by_cases h : a = b <;> simp [h]
theorem ap_bne (a b : Int) : (a != b) = decide (a ≠ b) := by by_cases h : a = b <;> simp [h]
theorem bits_tt {a b : Int} (ha : isT a = true) (hb : isT b = true) : bits .and .i32 a b = b01 (decide (a = 1 ∧ b = 1)) ∧ bits .or .i32 a b = b01 (decide (a = 1 ∨ b = 1)) := by
  rcases (by simpa [isT] using ha : a = 0 ∨ a = 1) with rfl | rfl <;> rcases (by simpa [isT] using hb : b = 0 ∨ b = 1) with rfl | rfl <;> exact ⟨by decide +kernel, by decide +kernel⟩
theorem div_unc (a b : Int) : UncR (apO 4 a b) (.returned (.tuple #[.int .i32 (W1.divR a b), .bool (W1.divB a b)])) := by
  refine ⟨_, _, rfl, fun h => ?_, fun h => ?_⟩
  · show (if b = 0 ∨ (a = -2147483648 ∧ b = -1) then none else some (a.tdiv b)) = none
    rw [if_pos]
    unfold W1.divB at h
    simpa using h
  · show (if b = 0 ∨ (a = -2147483648 ∧ b = -1) then none else some (a.tdiv b)) = _
    have hd : ¬ (b = 0 ∨ (a = -2147483648 ∧ b = -1)) := by
      intro hc
      have : W1.divB a b = true := by unfold W1.divB; simpa using hc
      rw [this] at h; cases h
    rw [if_neg hd]
    unfold W1.divR
    rw [h]
    simp
theorem rem_unc (a b : Int) : UncR (apO 5 a b) (.returned (.tuple #[.int .i32 (W1.remR a b), .bool (b == 0)])) := by
  refine ⟨_, _, rfl, fun h => ?_, fun h => ?_⟩
  · show (if b = 0 then none else some (a.tmod b)) = none
    rw [if_pos (by simpa using h)]
  · show (if b = 0 then none else some (a.tmod b)) = _
    unfold W1.remR
    rw [h, if_neg (by simpa using h), if_neg (by simp)]
theorem and_unc (a b : Int) : UncR (apO 20 a b) (.returned (.tuple #[.int .i32 (bits .and .i32 a b), .bool (!isT a || !isT b)])) := by
  refine ⟨_, _, rfl, fun h => ?_, fun h => ?_⟩
  · show (if isT a = true ∧ isT b = true then some (b01 (decide (a = 1 ∧ b = 1))) else none) = none
    rw [if_neg]
    rintro ⟨h1, h2⟩
    rw [h1, h2] at h; cases h
  · have hh : isT a = true ∧ isT b = true := by simpa using h
    show (if isT a = true ∧ isT b = true then some (b01 (decide (a = 1 ∧ b = 1))) else none) = _
    rw [if_pos hh, (bits_tt hh.1 hh.2).1]
theorem or_unc (a b : Int) : UncR (apO 21 a b) (.returned (.tuple #[.int .i32 (bits .or .i32 a b), .bool (!isT a || !isT b)])) := by
  refine ⟨_, _, rfl, fun h => ?_, fun h => ?_⟩
  · show (if isT a = true ∧ isT b = true then some (b01 (decide (a = 1 ∨ b = 1))) else none) = none
    rw [if_neg]
    rintro ⟨h1, h2⟩
    rw [h1, h2] at h; cases h
  · have hh : isT a = true ∧ isT b = true := by simpa using h
    show (if isT a = true ∧ isT b = true then some (b01 (decide (a = 1 ∨ b = 1))) else none) = _
    rw [if_pos hh, (bits_tt hh.1 hh.2).2]
theorem not_unc (a b : Int) : UncR (apO 26 a b) (.returned (.tuple #[.int .i32 (wrap32 (1 - a)), .bool (!isT a)])) := by
  refine ⟨_, _, rfl, fun h => ?_, fun h => ?_⟩
  · show (if isT a = true then some (1 - a) else none) = none
    rw [if_neg]
    intro h1
    rw [h1] at h; cases h
  · have hh : isT a = true := by simpa using h
    show (if isT a = true then some (1 - a) else none) = _
    rw [if_pos hh]
    rcases (by simpa [isT] using hh : a = 0 ∨ a = 1) with rfl | rfl <;> (rw [w32_is]; rfl)
theorem ap_big {o : Nat} (h : o = 0 ∨ 27 ≤ o) (a b : Int) : apO o a b = none := by
  unfold apO
  repeat rw [if_neg (by omega)]
theorem cert_un (o : Nat) (h : o = 0 ∨ o = 1 ∨ o = 2 ∨ o = 3 ∨ o = 4 ∨ o = 5 ∨ o = 20 ∨ o = 21 ∨ o = 23 ∨ 26 ≤ o) (w : World) : Calls Tryz.prog 28 #[.int .u8 (o : Int)] w fun e w' => e = .returned .nilFunc ∧ w = w' :=
  cert_no o (by rw [beq_eq_false_iff_ne]; omega) (by rw [beq_eq_false_iff_ne]; omega) (by rw [beq_eq_false_iff_ne]; omega) (by rw [beq_eq_false_iff_ne]; omega) (by rw [beq_eq_false_iff_ne]; omega) (by rw [beq_eq_false_iff_ne]; omega) (by rw [beq_eq_false_iff_ne]; omega) (by rw [beq_eq_false_iff_ne]; omega) (by rw [beq_eq_false_iff_ne]; omega) (by rw [beq_eq_false_iff_ne]; omega) (by rw [beq_eq_false_iff_ne]; omega) (by rw [beq_eq_false_iff_ne]; omega) (by rw [beq_eq_false_iff_ne]; omega) (by rw [beq_eq_false_iff_ne]; omega) (by rw [beq_eq_false_iff_ne]; omega) (by rw [beq_eq_false_iff_ne]; omega) (by rw [beq_eq_false_iff_ne]; omega) w
theorem Apply_any (o : Nat) (a b : Int) (ha : W1.isW a) (hb : W1.isW b) (w : World) : Calls Tryz.prog 12 #[.int .u8 (o : Int), .int .i32 a, .int .i32 b] w (ApR w (apO o a b)) := by
  by_cases hbig : o = 0 ∨ 27 ≤ o
  · rw [ap_big hbig]
    exact apply_unc o a b none w (cert_un o (by omega) w) ((unc_no o a b (by rw [beq_eq_false_iff_ne]; omega) (by rw [beq_eq_false_iff_ne]; omega) (by rw [beq_eq_false_iff_ne]; omega) (by rw [beq_eq_false_iff_ne]; omega) (by rw [beq_eq_false_iff_ne]; omega) (by rw [beq_eq_false_iff_ne]; omega) (by rw [beq_eq_false_iff_ne]; omega) (by rw [beq_eq_false_iff_ne]; omega) (by rw [beq_eq_false_iff_ne]; omega) w).mono fun e w' ⟨h1, h2⟩ => ⟨⟨_, _, h1, fun _ => rfl, fun h => by cases h⟩, h2⟩)
  have hs : o = 1 ∨ o = 2 ∨ o = 3 ∨ o = 4 ∨ o = 5 ∨ o = 6 ∨ o = 7 ∨ o = 8 ∨ o = 9 ∨ o = 10 ∨ o = 11 ∨ o = 12 ∨ o = 13 ∨ o = 14 ∨ o = 15 ∨ o = 16 ∨ o = 17 ∨ o = 18 ∨ o = 19 ∨ o = 20 ∨ o = 21 ∨ o = 22 ∨ o = 23 ∨ o = 24 ∨ o = 25 ∨ o = 26 := by omega
  rcases hs with rfl | rfl | rfl | rfl | rfl | rfl | rfl | rfl | rfl | rfl | rfl | rfl | rfl | rfl | rfl | rfl | rfl | rfl | rfl | rfl | rfl | rfl | rfl | rfl | rfl | rfl
  · exact apply_unc 1 a b _ w (cert_un 1 (by omega) w) ((unc_1 a b ha hb w).mono fun e w' ⟨h1, h2⟩ => ⟨by rw [h1]; exact unc_fit _, h2⟩)
  · exact apply_unc 2 a b _ w (cert_un 2 (by omega) w) ((unc_2 a b ha hb w).mono fun e w' ⟨h1, h2⟩ => ⟨by rw [h1]; exact unc_fit _, h2⟩)
  · exact apply_unc 3 a b _ w (cert_un 3 (by omega) w) ((unc_3 a b ha hb w).mono fun e w' ⟨h1, h2⟩ => ⟨by rw [h1]; exact unc_fit _, h2⟩)
  · exact apply_unc 4 a b _ w (cert_un 4 (by omega) w) ((unc_4 a b ha hb w).mono fun e w' ⟨h1, h2⟩ => ⟨by rw [h1]; exact div_unc a b, h2⟩)
  · exact apply_unc 5 a b _ w (cert_un 5 (by omega) w) ((unc_5 a b ha hb w).mono fun e w' ⟨h1, h2⟩ => ⟨by rw [h1]; exact rem_unc a b, h2⟩)
  · exact (apply_6 a b ha hb w).mono fun e w' h => ap_some (k := .i32) (w32_is _) h
  · exact (apply_7 a b ha hb w).mono fun e w' h => ap_some (k := .i32) (w32_is _) h
  · exact (apply_8 a b ha hb w).mono fun e w' h => ap_some (k := .i32) (w32_is _) h
  · exact (apply_9 a b ha hb w).mono fun e w' h => ap_some (k := .i32) rfl h
  · exact (apply_10 a b ha hb w).mono fun e w' h => ap_some (k := .i32) rfl h
  · exact (apply_11 a b ha hb w).mono fun e w' h => ap_some (k := .i32) rfl h
  · exact (apply_12 a b ha hb w).mono fun e w' h => ap_some (k := .i32) (by unfold W1.shlR W1.plc; exact w32_is _) h
  · exact (apply_13 a b ha hb w).mono fun e w' h => ap_some (k := .i32) (by unfold W1.shrR W1.plc; exact w32_is _) h
  · exact (apply_14 a b ha hb w).mono fun e w' h => ap_some (k := .i32) (by rw [ap_beq a b]) h
  · exact (apply_15 a b ha hb w).mono fun e w' h => ap_some (k := .i32) (by rw [ap_bne a b]) h
  · exact (apply_16 a b ha hb w).mono fun e w' h => ap_some (k := .i32) rfl h
  · exact (apply_17 a b ha hb w).mono fun e w' h => ap_some (k := .i32) rfl h
  · exact (apply_18 a b ha hb w).mono fun e w' h => ap_some (k := .i32) rfl h
  · exact (apply_19 a b ha hb w).mono fun e w' h => ap_some (k := .i32) rfl h
  · exact apply_unc 20 a b _ w (cert_un 20 (by omega) w) ((unc_20 a b w).mono fun e w' ⟨h1, h2⟩ => ⟨by rw [h1]; exact and_unc a b, h2⟩)
  · exact apply_unc 21 a b _ w (cert_un 21 (by omega) w) ((unc_21 a b w).mono fun e w' ⟨h1, h2⟩ => ⟨by rw [h1]; exact or_unc a b, h2⟩)
  · exact (apply_22 a b ha hb w).mono fun e w' h => ap_some (k := .i32) (by unfold W1.aftB; rw [w32_is]) h
  · exact apply_unc 23 a b _ w (cert_un 23 (by omega) w) ((unc_23 a b ha hb w).mono fun e w' ⟨h1, h2⟩ => ⟨by rw [h1]; exact unc_fit _, h2⟩)
  · exact (apply_24 a b ha hb w).mono fun e w' h => ap_some (k := .i32) (w32_is _) h
  · exact (apply_25 a b ha hb w).mono fun e w' h => ap_some (k := .i32) rfl h
  · exact apply_unc 26 a b _ w (cert_un 26 (by omega) w) ((unc_26 a b ha w).mono fun e w' ⟨h1, h2⟩ => ⟨by rw [h1]; exact not_unc a b, h2⟩)
end Go.Proofs.YtimbiobonigdmaaGreatDoor
/- Specifications in memory; what a map of meanings says. -/
set_option linter.unusedVariables false
set_option linter.unusedSimpArgs false
namespace Go.Proofs.YtimbiobonigdmaaGreatDoor
open Go Go.RowKit L8 L10 L14

/-- What was a cell is as it was. -/
def Km (w w' : World) : Prop := ∀ p v, w.cell? p = some v → w'.cell? p = some v
theorem Km.below {w w' : World} (b : Below w.heap.size w w') : Km w w' := fun p v h => (b.cell (g_lt h)).trans h
theorem Km.map {w w' : World} {b : Nat} {l : List (Bs × Value)} (h : MapL w b l) (g : w.grownBy w' (some b)) : Km w w' := fun p v hp => g.cell hp (fun e => by
  obtain ⟨es, clock, hb, _⟩ := h
  injection e with e
  unfold World.cell? at hp
  rw [e, hb] at hp
  cases hp)
theorem Km.trans {a b c : World} (h : Km a b) (k : Km b c) : Km a c := fun p v e => k p v (h p v e)
theorem Km.refl (w : World) : Km w w := fun _ _ h => h
theorem ExAt.km {w w' : World} {p : Addr} {e : Ex} {A : Option Addr} {c : Nat} (h : ExAt w p e A c) (b : Km w w') : ExAt w' p e A c := by
  obtain ⟨h0, h1, h2, h3, h4, h5⟩ := h
  exact ⟨b _ _ h0, b _ _ h1, b _ _ h2, b _ _ h3, b _ _ h4, b _ _ h5⟩
theorem TrR.km {w w' : World} {A : Option Addr} {c : Nat} {l : List Ex} (h : TrR w A c l) (b : Km w w') : TrR w' A c l := by
  induction h with
  | mk As cs le mx ok row sub ih => exact .mk As cs le mx ok (fun j hj => by obtain ⟨ad, e, h⟩ := row j hj; exact ⟨ad, e, h.km b⟩) ih
theorem SS.km {w w' : World} {A : Option Addr} {c : Nat} {ss : List Bs} (h : SS w A c ss) (b : Km w w') : SS w' A c ss :=
  ⟨h.le, h.mx, fun j hj => by obtain ⟨ad, e, hl⟩ := h.rd j hj; exact ⟨ad, e, b _ _ hl⟩⟩
structure SpOk (x : Sp) : Prop where
  k : x.k < 256
  t : x.t < 256
  d0 : -9223372036854775808 ≤ x.d
  d1 : x.d ≤ 9223372036854775807
  e : OKe x.e
  ns : ∀ s ∈ x.ns, s.length ≤ maxLen
/-- A specification at an address. -/
structure SpC (w : World) (p : Addr) (x : Sp) (A : Option Addr) (c : Nat) (B : Option Addr) (d : Nat) : Prop where
  c0 : w.cell? p = some (.int .u8 (x.k : Int))
  c1 : w.cell? ⟨p.block, p.off + 1, none⟩ = some (.int .u8 (x.t : Int))
  c2 : w.cell? ⟨p.block, p.off + 2, none⟩ = some (.int .i64 x.d)
  c5 : w.cell? ⟨p.block, p.off + 5, none⟩ = some (.slice A x.ns.length c)
  ex : ExAt w ⟨p.block, p.off + 6, none⟩ x.e B d
  ss : SS w A c x.ns
  tr : TrR w B d x.e.l
theorem SpC.km {w w' : World} {p : Addr} {x : Sp} {A B : Option Addr} {c d : Nat} (h : SpC w p x A c B d) (b : Km w w') : SpC w' p x A c B d :=
  ⟨b _ _ h.c0, b _ _ h.c1, b _ _ h.c2, b _ _ h.c5, h.ex.km b, h.ss.km b, h.tr.km b⟩
def SpW (w : World) (p : Addr) (x : Sp) : Prop := SpOk x ∧ ∃ A c B d, SpC w p x A c B d
theorem SpW.km {w w' : World} {p : Addr} {x : Sp} (h : SpW w p x) (b : Km w w') : SpW w' p x := by
  obtain ⟨ok, A, c, B, d, h⟩ := h
  exact ⟨ok, A, c, B, d, h.km b⟩
theorem SpW.keep {w w' : World} {p : Addr} {x : Sp} (h : SpW w p x) (b : Below w.heap.size w w') : SpW w' p x := h.km (.below b)
/-- A slice of specifications. -/
structure SpR (w : World) (A : Option Addr) (c : Nat) (l : List Sp) : Prop where
  le : l.length ≤ c
  mx : c ≤ maxLen
  rd : ∀ j, j < l.length → ∃ ad, A = some ad ∧ SpW w (ad.add (j * 16)) (l.getD j sp0)
theorem SpR.km {w w' : World} {A : Option Addr} {c : Nat} {l : List Sp} (h : SpR w A c l) (b : Km w w') : SpR w' A c l :=
  ⟨h.le, h.mx, fun j hj => by obtain ⟨ad, e, hl⟩ := h.rd j hj; exact ⟨ad, e, hl.km b⟩⟩
theorem SpR.keep {w w' : World} {A : Option Addr} {c : Nat} {l : List Sp} (h : SpR w A c l) (b : Below w.heap.size w w') : SpR w' A c l := h.km (.below b)
theorem SpR.nil (w : World) : SpR w none 0 [] := ⟨Nat.le_refl _, by simp [maxLen], (fun j h => absurd h (by simp))⟩
/-! ### Meanings -/
def lkV (p : Option Addr) (v : Option Int) : Value := .agg #[.pointer p, .int .i32 (v.getD 0), .bool v.isSome]
def MgR (w : World) (b : Nat) (m : Mg) : Prop := ∃ l, MapL w b l ∧ ∀ s, (m s = none ∧ getL l s = none) ∨ ∃ x v p, m s = some (x, v) ∧ getL l s = some (lkV (some p) v) ∧ SpW w p x ∧ ∀ u, v = some u → inW u
theorem MgR.lt {w : World} {b : Nat} {m : Mg} (h : MgR w b m) : b < w.heap.size := by
  obtain ⟨l, h, _⟩ := h; exact h.lt
theorem MgR.keep {w w' : World} {b : Nat} {m : Mg} (h : MgR w b m) (k : Below w.heap.size w w') : MgR w' b m := by
  obtain ⟨l, h1, h2⟩ := h
  refine ⟨l, h1.below k, fun s => (h2 s).imp id ?_⟩
  rintro ⟨x, v, p, e1, e2, e3, e4⟩
  exact ⟨x, v, p, e1, e2, e3.keep k, e4⟩
theorem zero_mg (W : World) : (zeroValue 83).run Tryz.prog W = .ok (lkV none none) W := by kernel_rfl
theorem MgR.look {w : World} {b : Nat} {m : Mg} (h : MgR w b m) (s : Bs) : ∃ p v, rho m s = v ∧ (∀ u, v = some u → inW u) ∧ (∀ n, (Instr.lookup 59 (.map (some b)) (.string (strOf s)) false).run Tryz.prog (w.drewN n) = .ok (lkV p v) (w.drewN n)) ∧ ((p = none ∧ m s = none) ∨ ∃ a x, p = some a ∧ m s = some (x, v) ∧ SpW w a x) := by
  obtain ⟨l, h1, h2⟩ := h
  have hr : ∀ n, (Instr.lookup 59 (.map (some b)) (.string (strOf s)) false).run Tryz.prog (w.drewN n) = .ok ((getL l s).getD (lkV none none)) (w.drewN n) := fun n =>
    run_look Tryz.underlying59 Tryz.underlying9 (zero_mg _) (h1.below (bdrew (b0 w) n)) s
  unfold rho
  rcases h2 s with ⟨e1, e2⟩ | ⟨x, v, p, e1, e2, e3, e4⟩
  · rw [e2] at hr
    rw [e1]
    exact ⟨none, none, rfl, (fun u h => by cases h), hr, .inl ⟨rfl, rfl⟩⟩
  · rw [e2] at hr
    rw [e1]
    exact ⟨some p, v, rfl, e4, hr, .inr ⟨p, x, rfl, rfl, e3⟩⟩
/-- Names entered. -/
def putM (m : Mg) (ns : List Bs) (y : Sp × Option Int) : Mg := fun s => if s ∈ ns then some y else m s
theorem MgR.put {w w' : World} {b : Nat} {m : Mg} {l : List (Bs × Value)} (h1 : MapL w b l) (h2 : ∀ s, (m s = none ∧ getL l s = none) ∨ ∃ x v p, m s = some (x, v) ∧ getL l s = some (lkV (some p) v) ∧ SpW w p x ∧ ∀ u, v = some u → inW u)
    {s : Bs} {x : Sp} {v : Option Int} {p : Addr} (hx : SpW w p x) (hv : ∀ u, v = some u → inW u) (k : MapL w' b (putL l s (lkV (some p) v))) (g : w.grownBy w' (some b)) : MgR w' b (putM m [s] (x, v)) := by
  have km := Km.map h1 g
  refine ⟨_, k, fun t => ?_⟩
  rw [get_put]
  unfold putM
  by_cases ht : t = s
  · rw [if_pos ht, if_pos (by rw [ht]; exact List.mem_singleton.2 rfl)]
    exact .inr ⟨x, v, p, rfl, rfl, hx.km km, hv⟩
  · rw [if_neg ht, if_neg (by rw [List.mem_singleton]; exact ht)]
    refine (h2 t).imp id ?_
    rintro ⟨x, v, p, e1, e2, e3, e4⟩
    exact ⟨x, v, p, e1, e2, e3.km km, e4⟩
theorem MgR.new (w : World) : MgR (w.alloc (.map #[] 0)) w.heap.size (fun _ => none) := ⟨[], MapL.new w, fun s => .inl ⟨rfl, rfl⟩⟩
/-! ### Values are words -/
theorem fit_in {x v : Int} (h : fitO x = some v) : inW v := by
  unfold fitO at h
  split at h
  · rename_i hx; injection h with h; subst h; exact hx
  · cases h
theorem w32_in (x : Int) : inW (w32 x) := by unfold inW w32; omega
theorem b01_in (p : Bool) : inW (b01 p) := by rcases b01_01 p with h | h <;> rw [h] <;> exact ⟨by decide, by decide⟩
theorem bits_in (op : BinOp) (a b : Int) : inW (bits op .i32 a b) := by
  unfold bits inW
  have hw : ∀ n : Int, -2147483648 ≤ IntKind.i32.wrap n ∧ IntKind.i32.wrap n ≤ 2147483647 := fun n => by rw [IntKind.wrap_i32]; omega
  cases op <;> first | exact hw _ | exact ⟨by decide, by decide⟩
end Go.Proofs.YtimbiobonigdmaaGreatDoor
/- The program: the value of an expression. -/
set_option linter.unusedVariables false
set_option linter.unusedSimpArgs false
namespace Go.Proofs.YtimbiobonigdmaaGreatDoor
open Go Go.RowKit L8 L10 L14

theorem ap_in {o : Nat} {a b v : Int} (ha : inW a) (hb : inW b) (h : apO o a b = some v) : inW v := by
  by_cases hbig : o = 0 ∨ 27 ≤ o
  · rw [ap_big hbig] at h; cases h
  have hs : o = 1 ∨ o = 2 ∨ o = 3 ∨ o = 4 ∨ o = 5 ∨ o = 6 ∨ o = 7 ∨ o = 8 ∨ o = 9 ∨ o = 10 ∨ o = 11 ∨ o = 12 ∨ o = 13 ∨ o = 14 ∨ o = 15 ∨ o = 16 ∨ o = 17 ∨ o = 18 ∨ o = 19 ∨ o = 20 ∨ o = 21 ∨ o = 22 ∨ o = 23 ∨ o = 24 ∨ o = 25 ∨ o = 26 := by omega
  rcases hs with rfl | rfl | rfl | rfl | rfl | rfl | rfl | rfl | rfl | rfl | rfl | rfl | rfl | rfl | rfl | rfl | rfl | rfl | rfl | rfl | rfl | rfl | rfl | rfl | rfl | rfl
  · exact fit_in h
  · exact fit_in h
  · exact fit_in h
  · have h : (if b = 0 ∨ (a = -2147483648 ∧ b = -1) then none else some (a.tdiv b)) = some v := h
    split at h
    · cases h
    · rename_i hc
      injection h with h; rw [← h]
      exact W1.tdiv_bd ha (fun e => hc (.inl e)) (fun e => hc (.inr e))
  · have h : (if b = 0 then none else some (a.tmod b)) = some v := h
    split at h
    · cases h
    · injection h with h; rw [← h]
      exact W1.tmod_bd ha
  · injection h with h; rw [← h]; exact w32_in _
  · injection h with h; rw [← h]; exact w32_in _
  · injection h with h; rw [← h]; exact w32_in _
  · injection h with h; rw [← h]; exact bits_in _ _ _
  · injection h with h; rw [← h]; exact bits_in _ _ _
  · injection h with h; rw [← h]; exact bits_in _ _ _
  · injection h with h; rw [← h]; exact w32_in _
  · injection h with h; rw [← h]; exact w32_in _
  · injection h with h; rw [← h]; exact b01_in _
  · injection h with h; rw [← h]; exact b01_in _
  · injection h with h; rw [← h]; exact b01_in _
  · injection h with h; rw [← h]; exact b01_in _
  · injection h with h; rw [← h]; exact b01_in _
  · injection h with h; rw [← h]; exact b01_in _
  · exact (ap_truth (o := 20) (a := a) (b := b) (.inl ⟨by omega, by omega⟩) h).elim (fun e => by rw [e]; exact ⟨by decide, by decide⟩) (fun e => by rw [e]; exact ⟨by decide, by decide⟩)
  · exact (ap_truth (o := 21) (a := a) (b := b) (.inl ⟨by omega, by omega⟩) h).elim (fun e => by rw [e]; exact ⟨by decide, by decide⟩) (fun e => by rw [e]; exact ⟨by decide, by decide⟩)
  · injection h with h; rw [← h]; exact b01_in _
  · exact fit_in h
  · injection h with h; rw [← h]; exact w32_in _
  · injection h with h; rw [← h]; exact bits_in _ _ _
  · exact (ap_truth (o := 26) (a := a) (b := b) (.inr rfl) h).elim (fun e => by rw [e]; exact ⟨by decide, by decide⟩) (fun e => by rw [e]; exact ⟨by decide, by decide⟩)
theorem con_in {t : Nat} {a v : Int} (ha : inW a) (h : conO t a = some v) : inW v := by
  unfold conO at h
  split at h
  · injection h with h; subst h; exact ha
  · cases h
/-- What a map says are words. -/
def inM (m : Mg) : Prop := ∀ s, (∀ v, rho m s = some v → inW v) ∧ (∀ v, sig m s = some v → inW v)
theorem szS_in {x : Sp} {v : Int} (h : szS x = some v) : inW v := by
  unfold szS at h
  split at h
  · rename_i hc; injection h with h; subst h; exact ⟨by omega, by omega⟩
  · cases h
theorem MgR.inM {w : World} {b : Nat} {m : Mg} (h : MgR w b m) : inM m := by
  obtain ⟨l, _, h2⟩ := h
  intro s
  rcases h2 s with ⟨e1, _⟩ | ⟨x, v, p, e1, _, _, e4⟩
  · refine ⟨fun v h => ?_, fun v h => ?_⟩
    · unfold rho at h; rw [e1] at h; cases h
    · unfold sig at h; rw [e1] at h; cases h
  · refine ⟨fun u h => ?_, fun u h => ?_⟩
    · unfold rho at h; rw [e1] at h; exact e4 u h
    · unfold sig at h; rw [e1] at h; exact szS_in h
theorem all_part {e x : Ex} (h : allE e = true) (hx : x ∈ e.l) : allE x = true := by
  rw [allE_eq, Bool.and_eq_true, allL_iff] at h
  exact h.2 x hx
theorem ops_in {vs : List (Option Int)} (h : ∀ v ∈ vs, ∀ u, v = some u → inW u) {p : Int × Int} (e : ops2 vs = some p) : inW p.1 ∧ inW p.2 := by
  match vs, e with
  | [some a], e => injection e with e; rw [← e]; exact ⟨h _ (by simp) a rfl, show inW 0 from ⟨by decide, by decide⟩⟩
  | [some a, some b], e => injection e with e; rw [← e]; exact ⟨h _ (by simp) a rfl, h (some b) (by simp) b rfl⟩
theorem hd_in {vs : List (Option Int)} (h : ∀ v ∈ vs, ∀ u, v = some u → inW u) {p : Int} (e : hd1 vs = some p) : inW p := by
  match vs, e with
  | x :: r, e => exact h x (by simp) p e
theorem val_in {m : Mg} (hm : inM m) : ∀ (e : Ex), OKe e → ∀ {w : World} {A : Option Addr} {c : Nat}, TrR w A c e.l → ∀ v, vOf m e = some v → inW v := by
  refine Ex.ind fun e ih ok w A c R v hv => ?_
  unfold vOf at hv ih
  have hp : ∀ y ∈ L14.valL (rho m) (sig m) e.l, ∀ u, y = some u → inW u := by
    intro y hy u hu
    rw [L14.valL_map] at hy
    obtain ⟨x, hx, rfl⟩ := List.mem_map.1 hy
    obtain ⟨j, hj, rfl⟩ := List.getElem_of_mem hx
    obtain ⟨ad, _, B, n, d, _, okx, Rx, _⟩ := R.at hj
    have e1 : e.l.getD j e0 = e.l[j] := by simp [hj]
    rw [e1] at okx Rx
    exact ih _ hx okx Rx u hu
  rw [valE_eq] at hv
  unfold valO at hv
  by_cases h1 : e.k = 1 ∨ e.k = 2 ∨ e.k = 3
  · rw [if_pos h1] at hv; injection hv with hv; rw [← hv]; exact ⟨ok.2.2.2.1, ok.2.2.2.2.1⟩
  rw [if_neg h1] at hv
  by_cases h2 : e.k = 4
  · rw [if_pos h2] at hv; exact (hm _).1 v hv
  rw [if_neg h2] at hv
  by_cases h3 : e.k = 9
  · rw [if_pos h3] at hv; exact (hm _).2 v hv
  rw [if_neg h3] at hv
  by_cases h4 : e.k = 6 ∨ e.k = 7
  · rw [if_pos h4] at hv
    cases hq : ops2 (L14.valL (rho m) (sig m) e.l) with
    | none => rw [hq] at hv; cases hv
    | some p => rw [hq] at hv; have := ops_in hp hq; exact ap_in this.1 this.2 hv
  rw [if_neg h4] at hv
  by_cases h5 : e.k = 8
  · rw [if_pos h5] at hv
    cases hq : hd1 (L14.valL (rho m) (sig m) e.l) with
    | none => rw [hq] at hv; cases hv
    | some p => rw [hq] at hv; exact con_in (hd_in hp hq) hv
  rw [if_neg h5] at hv
  cases hv
/-- What value answers. -/
def VlR (w : World) (x : Option Int) (e : Ending) (w' : World) : Prop := e = .returned (apR x) ∧ Below w.heap.size w w'
/-! ### The size of an array -/
theorem size_none (w : World) : Calls Tryz.prog 34 #[lkV none none] w (VlR w none) := by
  have B := Lib.hid (bal (b0 w) (.cells #[.pointer none, .int .i32 0, .bool false] 83))
  unfold lkV VlR apR
  dsimp only [Option.getD, Option.isSome]
  go_enter Tryz.func34, Tryz.ntmps34
  go_wp2
  go_ret2
  exact ⟨rfl, B.out⟩
theorem nat_neI (a b : Nat) : ((a : Int) != (b : Int)) = !decide (a = b) := nat_ne10 a b
set_option maxRecDepth 100000 in
theorem size_some {w : World} {a : Addr} {x : Sp} (v : Option Int) (h : SpW w a x) : Calls Tryz.prog 34 #[lkV (some a) v] w (VlR w (szS x)) := by
  obtain ⟨ok, A, c, B, d, h⟩ := h
  unfold lkV
  generalize v.getD 0 = v1
  generalize v.isSome = v2
  have HB := bal (b0 w) (.cells #[.pointer (some a), .int .i32 v1, .bool v2] 83)
  have h' := h.km (.below HB)
  have HB := Lib.hid HB
  have c0 := h'.c0
  have c2 := h'.c2
  have hd0 := ok.d0
  have hd1 := ok.d1
  have q0 : ((x.k : Int) != 1) = !decide (x.k = 1) := nat_neI x.k 1
  have HS := Lib.hid (show szS x = if x.k = 1 ∧ 1 ≤ x.d ∧ x.d ≤ 2147483647 then some x.d else none from rfl)
  clear h h' ok
  generalize x.d = D at *
  by_cases h1 : x.k = 1
  · rw [decide_eq_true h1] at q0
    have H1 := Lib.hid h1
    clear h1
    by_cases h2 : D < 1
    · have H2 := Lib.hid h2
      have q1 : decide (D < 1) = true := by simpa using h2
      clear h2
      go_enter Tryz.func34, Tryz.ntmps34
      go_wp2
      go_ret2
      exact ⟨by rw [HS.out, if_neg (by have := H2.out; omega)]; rfl, HB.out⟩
    · have H2 := Lib.hid h2
      have q1 : decide (D < 1) = false := by simpa using h2
      clear h2
      by_cases h3 : 2147483647 < D
      · have H3 := Lib.hid h3
        have q2 : decide (2147483647 < D) = true := by simpa using h3
        clear h3
        go_enter Tryz.func34, Tryz.ntmps34
        go_wp2
        go_ret2
        exact ⟨by rw [HS.out, if_neg (by have := H3.out; omega)]; rfl, HB.out⟩
      · have H3 := Lib.hid h3
        have q2 : decide (2147483647 < D) = false := by simpa using h3
        have HW : IntKind.i32.wrap D = D := by rw [IntKind.wrap_i32]; have := H2.out; omega
        clear h3
        go_enter Tryz.func34, Tryz.ntmps34
        go_wp2
        go_ret2
        exact ⟨by rw [HS.out, if_pos ⟨H1.out, by have := H2.out; omega, by have := H3.out; omega⟩]; rfl, HB.out⟩
  · rw [decide_eq_false h1] at q0
    have H1 := Lib.hid h1
    clear h1
    go_enter Tryz.func34, Tryz.ntmps34
    go_wp2
    go_ret2
    exact ⟨by rw [HS.out, if_neg (by have := H1.out; omega)]; rfl, HB.out⟩
end Go.Proofs.YtimbiobonigdmaaGreatDoor
/- The program: the value of an expression, kind by kind. -/
set_option linter.unusedVariables false
set_option linter.unusedSimpArgs false
namespace Go.Proofs.YtimbiobonigdmaaGreatDoor
open Go Go.RowKit L8 L10 L14

/-- The contract of value at a part. -/
def VlC (b : Nat) (m : Mg) (y : Ex) : Prop := ∀ (B : Option Addr) (n d : Nat) (X : World), TrR X B d y.l → y.l.length = n → MgR X b m → Calls Tryz.prog 22 #[.map (some b), exV y B n d] X (VlR X (vOf m y))
theorem xs_new {w : World} {e : Ex} {A : Option Addr} {n c : Nat} (R : TrR w A c e.l) : XS w (w.alloc (.cells (exC e A n c) 27)) e A n c := XS.new R
set_option maxRecDepth 100000 in
set_option maxHeartbeats 4000000 in
theorem converted_any {b : Nat} {m : Mg} (e : Ex) (A : Option Addr) (n c : Nat) (w : World) (R : TrR w A c e.l) (hn : e.l.length = n) (h1 : 1 ≤ n) (ok : OKe e) (hp : prim e.t = true) (M : MgR w b m) (C : VlC b m (e.l.getD 0 e0)) :
    Calls Tryz.prog 36 #[.map (some b), exV e A n c] w (VlR w ((vOf m (e.l.getD 0 e0)).bind (conO e.t))) := by
  have HX := Lib.hid (XS.new (n := n) R)
  obtain ⟨ad, e1, B, k, d, hk, oky, Ry, y0, y1, y2, y3, y4, y5⟩ := HX.out.tr.at (j := 0) (by omega)
  subst e1
  rw [Nat.zero_mul] at y0 y1 y2 y3 y4 y5
  rw [show ad.add 0 = ad from rfl] at y0 y1 y2 y3 y4 y5
  obtain ⟨p0, p1, p2, p3, p4, p5⟩ := HX.out.box
  have M1 := M.keep HX.out.bel
  have C1 := C B k d _ Ry hk M1
  have hin := val_in M1.inM _ oky Ry
  clear M1 Ry hk
  have q2' : ((e.t : Int) == 2) = decide (e.t = 2) := nat_eq10 e.t 2
  have q3' : ((e.t : Int) == 3) = decide (e.t = 3) := nat_eq10 e.t 3
  have hn1 : (1 : Int) ≤ (n : Int) := by omega
  have hmx : n ≤ maxLen := by have := R.le; have := R.mx; omega
  unfold maxLen at hmx
  have ht := (prim_iff e.t).1 hp
  clear R hn ok hp M C h1
  unfold VlR at C1
  generalize vOf m (e.l.getD 0 e0) = r at *
  generalize e.l.getD 0 e0 = y at *
  dsimp only [exV, exC] at *
  generalize strOf e.s = S at *
  generalize strOf y.s = SY at *
  obtain ⟨Z, hZ⟩ : ∃ Z, r.bind (conO e.t) = Z := ⟨_, rfl⟩
  rw [hZ]
  clear p0 p1 p3 p4
  have CT := Lib.hid (fun (u : Int) W => isTruth_any u W)
  cases r with
  | none =>
    have C2 := Lib.hid (show Calls Tryz.prog 22 _ (w.alloc (.cells #[.int .u8 (e.k : Int), .int .u8 (e.o : Int), .int .u8 (e.t : Int), .int .i32 e.n, .string S, .slice (some ad) n c] 27)) fun e1 w2 => e1 = .returned (.tuple #[.int .i32 0, .bool false]) ∧ Below (w.alloc (.cells #[.int .u8 (e.k : Int), .int .u8 (e.o : Int), .int .u8 (e.t : Int), .int .i32 e.n, .string S, .slice (some ad) n c] 27)).heap.size (w.alloc (.cells #[.int .u8 (e.k : Int), .int .u8 (e.o : Int), .int .u8 (e.t : Int), .int .i32 e.n, .string S, .slice (some ad) n c] 27)) w2 from C1)
    have HZ := Lib.hid (show Z = none from hZ.symm)
    clear C1 hin hZ
    rcases ht with ht | ht | ht
    · have q2 := q2'.trans (decide_eq_false (by omega))
      have q3 := q3'.trans (decide_eq_false (by omega))
      clear q2' q3' ht CT
      go_enter Tryz.func36, Tryz.ntmps36
      go_wp2_with (first | (go_at_call 22; (with_reducible refine (C2.out).mono ?_); rintro e1 w2 ⟨rfl, b⟩; have H2 := Lib.hid (blw HX.out.bel b); have p2' := (b.cell (g_lt p2)).trans p2; clear b))
      go_ret2
      exact ⟨by rw [HZ.out]; rfl, H2.out⟩
    · have q2 := q2'.trans (decide_eq_true ht)
      have q3 := q3'.trans (decide_eq_false (by omega))
      clear q2' q3' ht CT
      go_enter Tryz.func36, Tryz.ntmps36
      go_wp2_with (first | (go_at_call 22; (with_reducible refine (C2.out).mono ?_); rintro e1 w2 ⟨rfl, b⟩; have H2 := Lib.hid (blw HX.out.bel b); have p2' := (b.cell (g_lt p2)).trans p2; clear b))
      go_ret2
      exact ⟨by rw [HZ.out]; rfl, H2.out⟩
    · have q2 := q2'.trans (decide_eq_false (by omega))
      have q3 := q3'.trans (decide_eq_true ht)
      clear q2' q3' ht CT
      go_enter Tryz.func36, Tryz.ntmps36
      go_wp2_with (first | (go_at_call 22; (with_reducible refine (C2.out).mono ?_); rintro e1 w2 ⟨rfl, b⟩; have H2 := Lib.hid (blw HX.out.bel b); have p2' := (b.cell (g_lt p2)).trans p2; clear b))
      go_ret2
      exact ⟨by rw [HZ.out]; rfl, H2.out⟩
  | some u =>
    have C2 := Lib.hid (show Calls Tryz.prog 22 _ (w.alloc (.cells #[.int .u8 (e.k : Int), .int .u8 (e.o : Int), .int .u8 (e.t : Int), .int .i32 e.n, .string S, .slice (some ad) n c] 27)) fun e1 w2 => e1 = .returned (.tuple #[.int .i32 u, .bool true]) ∧ Below (w.alloc (.cells #[.int .u8 (e.k : Int), .int .u8 (e.o : Int), .int .u8 (e.t : Int), .int .i32 e.n, .string S, .slice (some ad) n c] 27)).heap.size (w.alloc (.cells #[.int .u8 (e.k : Int), .int .u8 (e.o : Int), .int .u8 (e.t : Int), .int .i32 e.n, .string S, .slice (some ad) n c] 27)) w2 from C1)
    have hu := hin u rfl
    have hu0 : -2147483648 ≤ u := hu.1
    have hu1 : u ≤ 2147483647 := hu.2
    have hR : Z = (if e.t = 1 ∨ (e.t = 2 ∧ 0 ≤ u ∧ u ≤ 255) ∨ (e.t = 3 ∧ (u = 0 ∨ u = 1)) then some u else none) := hZ.symm
    clear C1 hin hu hZ
    rcases ht with ht | ht | ht
    · have HZ := Lib.hid (show Z = some u by rw [hR, if_pos (.inl ht)])
      have q2 := q2'.trans (decide_eq_false (by omega))
      have q3 := q3'.trans (decide_eq_false (by omega))
      clear hR q2' q3' ht
      go_enter Tryz.func36, Tryz.ntmps36
      go_wp2_with (first | (go_at_call 22; (with_reducible refine (C2.out).mono ?_); rintro e1 w2 ⟨rfl, b⟩; have H2 := Lib.hid (blw HX.out.bel b); have p2' := (b.cell (g_lt p2)).trans p2; clear b) | (go_at_call 68; (with_reducible refine (CT.out _ _).mono ?_); rintro e1 w2 ⟨rfl, rfl⟩))
      go_ret2
      exact ⟨by rw [HZ.out]; rfl, H2.out⟩
    · by_cases g0 : 0 ≤ u
      · by_cases g1 : u ≤ 255
        · have HZ := Lib.hid (show Z = some u by rw [hR, if_pos (.inr (.inl ⟨ht, g0, g1⟩))])
          have r0 : decide (0 ≤ u) = true := by simpa using g0
          have r1 : decide (u ≤ 255) = true := by simpa using g1
          have q2 := q2'.trans (decide_eq_true ht)
          have q3 := q3'.trans (decide_eq_false (by omega))
          clear hR q2' q3' ht g0 g1
          go_enter Tryz.func36, Tryz.ntmps36
          go_wp2_with (first | (go_at_call 22; (with_reducible refine (C2.out).mono ?_); rintro e1 w2 ⟨rfl, b⟩; have H2 := Lib.hid (blw HX.out.bel b); have p2' := (b.cell (g_lt p2)).trans p2; clear b) | (go_at_call 68; (with_reducible refine (CT.out _ _).mono ?_); rintro e1 w2 ⟨rfl, rfl⟩))
          go_ret2
          exact ⟨by rw [HZ.out]; rfl, H2.out⟩
        · have HZ := Lib.hid (show Z = none by rw [hR, if_neg (by omega)])
          have r0 : decide (0 ≤ u) = true := by simpa using g0
          have r1 : decide (u ≤ 255) = false := by simpa using g1
          have q2 := q2'.trans (decide_eq_true ht)
          have q3 := q3'.trans (decide_eq_false (by omega))
          clear hR q2' q3' ht g0 g1
          go_enter Tryz.func36, Tryz.ntmps36
          go_wp2_with (first | (go_at_call 22; (with_reducible refine (C2.out).mono ?_); rintro e1 w2 ⟨rfl, b⟩; have H2 := Lib.hid (blw HX.out.bel b); have p2' := (b.cell (g_lt p2)).trans p2; clear b) | (go_at_call 68; (with_reducible refine (CT.out _ _).mono ?_); rintro e1 w2 ⟨rfl, rfl⟩))
          go_ret2
          exact ⟨by rw [HZ.out]; rfl, H2.out⟩
      · have HZ := Lib.hid (show Z = none by rw [hR, if_neg (by omega)])
        have r0 : decide (0 ≤ u) = false := by simpa using g0
        have q2 := q2'.trans (decide_eq_true ht)
        have q3 := q3'.trans (decide_eq_false (by omega))
        clear hR q2' q3' ht g0
        go_enter Tryz.func36, Tryz.ntmps36
        go_wp2_with (first | (go_at_call 22; (with_reducible refine (C2.out).mono ?_); rintro e1 w2 ⟨rfl, b⟩; have H2 := Lib.hid (blw HX.out.bel b); have p2' := (b.cell (g_lt p2)).trans p2; clear b) | (go_at_call 68; (with_reducible refine (CT.out _ _).mono ?_); rintro e1 w2 ⟨rfl, rfl⟩))
        go_ret2
        exact ⟨by rw [HZ.out]; rfl, H2.out⟩
    · have hi := isT_iff u
      have CU := Lib.hid (fun W => isTruth_any u W)
      have hR2 : Z = if isT u = true then some u else none := by
        rw [hR]
        by_cases hc : u = 0 ∨ u = 1
        · rw [if_pos (.inr (.inr ⟨ht, hc⟩)), if_pos (hi.2 hc)]
        · rw [if_neg (by omega), if_neg (fun h => hc (hi.1 h))]
      have q2 := q2'.trans (decide_eq_false (by omega))
      have q3 := q3'.trans (decide_eq_true ht)
      clear hR q2' q3' ht hi CT
      generalize isT u = z at *
      cases z
      · have HZ := Lib.hid (show Z = none by rw [hR2]; rfl)
        clear hR2
        go_enter Tryz.func36, Tryz.ntmps36
        go_wp2_with (first | (go_at_call 22; (with_reducible refine (C2.out).mono ?_); rintro e1 w2 ⟨rfl, b⟩; have H2 := Lib.hid (blw HX.out.bel b); have p2' := (b.cell (g_lt p2)).trans p2; clear b) | (go_at_call 68; (with_reducible refine (CU.out _).mono ?_); rintro e1 w2 ⟨rfl, rfl⟩))
        go_ret2
        exact ⟨by rw [HZ.out]; rfl, H2.out⟩
      · have HZ := Lib.hid (show Z = some u by rw [hR2]; rfl)
        clear hR2
        go_enter Tryz.func36, Tryz.ntmps36
        go_wp2_with (first | (go_at_call 22; (with_reducible refine (C2.out).mono ?_); rintro e1 w2 ⟨rfl, b⟩; have H2 := Lib.hid (blw HX.out.bel b); have p2' := (b.cell (g_lt p2)).trans p2; clear b) | (go_at_call 68; (with_reducible refine (CU.out _).mono ?_); rintro e1 w2 ⟨rfl, rfl⟩))
        go_ret2
        exact ⟨by rw [HZ.out]; rfl, H2.out⟩
end Go.Proofs.YtimbiobonigdmaaGreatDoor
