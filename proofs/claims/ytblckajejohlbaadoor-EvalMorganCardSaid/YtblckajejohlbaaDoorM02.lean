/- The program: the operators on words. -/
import Derived.Test.YtblckajejohlbaaDoorKit
import Derived.Test.YtblckajejohlbaaDoorFoa
import Derived.Test.YtblckajejohlbaaDoorM01
set_option linter.unusedVariables false
set_option linter.unusedSimpArgs false
set_option linter.unusedVariables false
set_option linter.unusedSimpArgs false
namespace Go.Proofs.YtblckajejohlbaaDoor
open Go Go.RowKit L8 L10 L14

/-- What the result of an operator is as values. -/
def apR (x : Option Int) : Value := .tuple #[.int .i32 (x.getD 0), .bool x.isSome]
theorem w32_is (x : Int) : wrap32 x = w32 x := by unfold wrap32 w32; rfl
theorem over_fit (x : Int) : W1.overB x = !(fitO x).isSome := by
  unfold W1.overB fitO
  by_cases h : -2147483648 ≤ x ∧ x ≤ 2147483647
  · rw [if_pos h, decide_eq_true h.1, decide_eq_true (by omega)]; rfl
  · rw [if_neg h]
    by_cases h1 : -2147483648 ≤ x
    · rw [decide_eq_true h1, decide_eq_false (by omega)]; rfl
    · rw [decide_eq_false h1]; rfl
theorem wrap_fit {x : Int} (h : (fitO x).isSome = true) : fitO x = some (wrap32 x) := by
  unfold fitO at *
  by_cases hx : -2147483648 ≤ x ∧ x ≤ 2147483647
  · rw [if_pos hx]
    congr 1
    unfold wrap32
    omega
  · rw [if_neg hx] at h; cases h
/-- What an operator that may fail answers. -/
def UncR (x : Option Int) (e : Ending) : Prop := ∃ r p, e = .returned (.tuple #[.int .i32 r, .bool p]) ∧ (p = true → x = none) ∧ (p = false → x = some r)
theorem unc_fit (x : Int) : UncR (fitO x) (.returned (.tuple #[.int .i32 (wrap32 x), .bool (W1.overB x)])) := by
  refine ⟨_, _, rfl, fun h => ?_, fun h => ?_⟩
  · rw [over_fit] at h
    cases hf : fitO x with
    | none => rfl
    | some y => rw [hf] at h; cases h
  · rw [over_fit] at h
    exact wrap_fit (by simpa using h)
theorem isTruth_any (a : Int) (w : World) : Calls Tryd.prog 101 #[.int .i32 a] w fun e w' => e = .returned (.bool (isT a)) ∧ w = w' := by
  have q0 : (a == 0) = decide (a = 0) := by by_cases h : a = 0 <;> simp [h]
  have q1 : (a == 1) = decide (a = 1) := by by_cases h : a = 1 <;> simp [h]
  unfold isT
  generalize decide (a = 0) = b0 at *
  generalize decide (a = 1) = b1 at *
  go_enter Tryd.func101, Tryd.ntmps101
  cases b0 <;> (go_wp2; go_ret; exact ⟨ret_b (by simp), rfl⟩)
theorem truth_any (p : Bool) (w : World) : Calls Tryd.prog 104 #[.bool p] w fun e w' => e = .returned (.int .i32 (b01 p)) ∧ w = w' := by
  go_enter Tryd.func104, Tryd.ntmps104
  cases p <;> (go_wp2; go_ret; exact ⟨rfl, rfl⟩)
theorem cl_2 (a b : Int) (w : World) : Calls Tryd.prog 108 #[.int .i32 a, .int .i32 b] w fun e w' => e = .returned (.int .i32 (bits .and .i32 a b)) ∧ w = w' := by
  go_enter Tryd.func108, Tryd.ntmps108
  go_wp2
  go_ret
  exact ⟨rfl, rfl⟩
theorem cl_3 (a b : Int) (w : World) : Calls Tryd.prog 109 #[.int .i32 a, .int .i32 b] w fun e w' => e = .returned (.int .i32 (bits .or .i32 a b)) ∧ w = w' := by
  go_enter Tryd.func109, Tryd.ntmps109
  go_wp2
  go_ret
  exact ⟨rfl, rfl⟩
theorem cl_4 (a b : Int) (w : World) : Calls Tryd.prog 110 #[.int .i32 a, .int .i32 b] w fun e w' => e = .returned (.int .i32 (bits .xor .i32 a b)) ∧ w = w' := by
  go_enter Tryd.func110, Tryd.ntmps110
  go_wp2
  go_ret
  exact ⟨rfl, rfl⟩
theorem cl_5 (a b : Int) (w : World) : Calls Tryd.prog 113 #[.int .i32 a, .int .i32 b] w fun e w' => e = .returned (.bool (a == b)) ∧ w = w' := by
  go_enter Tryd.func113, Tryd.ntmps113
  go_wp2
  go_ret
  exact ⟨rfl, rfl⟩
theorem cl_6 (a b : Int) (w : World) : Calls Tryd.prog 114 #[.int .i32 a, .int .i32 b] w fun e w' => e = .returned (.bool (a != b)) ∧ w = w' := by
  go_enter Tryd.func114, Tryd.ntmps114
  go_wp2
  go_ret
  exact ⟨rfl, rfl⟩
theorem cl_7 (a b : Int) (w : World) : Calls Tryd.prog 115 #[.int .i32 a, .int .i32 b] w fun e w' => e = .returned (.bool (decide (a < b))) ∧ w = w' := by
  go_enter Tryd.func115, Tryd.ntmps115
  go_wp2
  go_ret
  exact ⟨rfl, rfl⟩
theorem cl_8 (a b : Int) (w : World) : Calls Tryd.prog 116 #[.int .i32 a, .int .i32 b] w fun e w' => e = .returned (.bool (decide (b < a))) ∧ w = w' := by
  go_enter Tryd.func116, Tryd.ntmps116
  go_wp2
  go_ret
  exact ⟨rfl, rfl⟩
theorem cl_9 (a b : Int) (w : World) : Calls Tryd.prog 117 #[.int .i32 a, .int .i32 b] w fun e w' => e = .returned (.bool (decide (a ≤ b))) ∧ w = w' := by
  go_enter Tryd.func117, Tryd.ntmps117
  go_wp2
  go_ret
  exact ⟨rfl, rfl⟩
theorem cl_10 (a b : Int) (w : World) : Calls Tryd.prog 118 #[.int .i32 a, .int .i32 b] w fun e w' => e = .returned (.bool (decide (b ≤ a))) ∧ w = w' := by
  go_enter Tryd.func118, Tryd.ntmps118
  go_wp2
  go_ret
  exact ⟨rfl, rfl⟩
theorem cl_11 (a b : Int) (ha : W1.isW a) (w : World) : Calls Tryd.prog 120 #[.int .i32 a, .int .i32 b] w fun e w' => e = .returned (.int .i32 (wrap32 (0 - a))) ∧ w = w' := by
  have C := Lib.hid (W1.Diff_any 0 a ⟨by decide, by decide⟩ ha)
  go_enter Tryd.func120, Tryd.ntmps120
  go_wp2_with (go_at_call 106; (with_reducible refine (C.out _).mono ?_); rintro e w' ⟨rfl, rfl⟩)
  go_ret
  exact ⟨ret_i (by rw [Int.zero_sub]), rfl⟩
theorem cl_12 (a b : Int) (ha : W1.isW a) (w : World) : Calls Tryd.prog 121 #[.int .i32 a, .int .i32 b] w fun e w' => e = .returned (.int .i32 (bits .xor .i32 (-1) a)) ∧ w = w' := by
  go_enter Tryd.func121, Tryd.ntmps121
  go_wp2
  go_ret
  exact ⟨rfl, rfl⟩
set_option maxRecDepth 100000 in
theorem cert_6 (w : World) : Calls Tryd.prog 82 #[.int .u8 6] w fun e w' => e = .returned (.func (.func 105) #[] #[]) ∧ w = w' := by
  go_enter Tryd.func82, Tryd.ntmps82
  go_wp2
  go_ret
  exact ⟨rfl, rfl⟩
set_option maxRecDepth 100000 in
theorem cert_7 (w : World) : Calls Tryd.prog 82 #[.int .u8 7] w fun e w' => e = .returned (.func (.func 106) #[] #[]) ∧ w = w' := by
  go_enter Tryd.func82, Tryd.ntmps82
  go_wp2
  go_ret
  exact ⟨rfl, rfl⟩
set_option maxRecDepth 100000 in
theorem cert_8 (w : World) : Calls Tryd.prog 82 #[.int .u8 8] w fun e w' => e = .returned (.func (.func 107) #[] #[]) ∧ w = w' := by
  go_enter Tryd.func82, Tryd.ntmps82
  go_wp2
  go_ret
  exact ⟨rfl, rfl⟩
set_option maxRecDepth 100000 in
theorem cert_9 (w : World) : Calls Tryd.prog 82 #[.int .u8 9] w fun e w' => e = .returned (.func (.func 108) #[] #[]) ∧ w = w' := by
  go_enter Tryd.func82, Tryd.ntmps82
  go_wp2
  go_ret
  exact ⟨rfl, rfl⟩
set_option maxRecDepth 100000 in
theorem cert_10 (w : World) : Calls Tryd.prog 82 #[.int .u8 10] w fun e w' => e = .returned (.func (.func 109) #[] #[]) ∧ w = w' := by
  go_enter Tryd.func82, Tryd.ntmps82
  go_wp2
  go_ret
  exact ⟨rfl, rfl⟩
set_option maxRecDepth 100000 in
theorem cert_11 (w : World) : Calls Tryd.prog 82 #[.int .u8 11] w fun e w' => e = .returned (.func (.func 110) #[] #[]) ∧ w = w' := by
  go_enter Tryd.func82, Tryd.ntmps82
  go_wp2
  go_ret
  exact ⟨rfl, rfl⟩
set_option maxRecDepth 100000 in
theorem cert_12 (w : World) : Calls Tryd.prog 82 #[.int .u8 12] w fun e w' => e = .returned (.func (.func 111) #[] #[]) ∧ w = w' := by
  go_enter Tryd.func82, Tryd.ntmps82
  go_wp2
  go_ret
  exact ⟨rfl, rfl⟩
set_option maxRecDepth 100000 in
theorem cert_13 (w : World) : Calls Tryd.prog 82 #[.int .u8 13] w fun e w' => e = .returned (.func (.func 112) #[] #[]) ∧ w = w' := by
  go_enter Tryd.func82, Tryd.ntmps82
  go_wp2
  go_ret
  exact ⟨rfl, rfl⟩
set_option maxRecDepth 100000 in
theorem cert_24 (w : World) : Calls Tryd.prog 82 #[.int .u8 24] w fun e w' => e = .returned (.func (.func 120) #[] #[]) ∧ w = w' := by
  go_enter Tryd.func82, Tryd.ntmps82
  go_wp2
  go_ret
  exact ⟨rfl, rfl⟩
set_option maxRecDepth 100000 in
theorem cert_25 (w : World) : Calls Tryd.prog 82 #[.int .u8 25] w fun e w' => e = .returned (.func (.func 121) #[] #[]) ∧ w = w' := by
  go_enter Tryd.func82, Tryd.ntmps82
  go_wp2
  go_ret
  exact ⟨rfl, rfl⟩
theorem whether_any (g : Nat) (w : World) : Calls Tryd.prog 102 #[.func (.func g) #[] #[]] w fun e w' => e = .returned (.func (.func 103) #[] #[.pointer (some ⟨w.heap.size, 0, none⟩)]) ∧ w' = w.alloc (.cells #[.func (.func g) #[] #[]] 142) := by
  go_enter Tryd.func102, Tryd.ntmps102
  go_wp2
  go_ret
  exact ⟨rfl, rfl⟩
set_option maxRecDepth 100000 in
theorem cert_14 (w : World) : Calls Tryd.prog 82 #[.int .u8 14] w fun e w' => e = .returned (.func (.func 103) #[] #[.pointer (some ⟨w.heap.size, 0, none⟩)]) ∧ w' = w.alloc (.cells #[.func (.func 113) #[] #[]] 142) := by
  go_enter Tryd.func82, Tryd.ntmps82
  go_wp2_with (go_at_call 102; (with_reducible refine (whether_any _ _).mono ?_); rintro e w' ⟨rfl, rfl⟩)
  go_ret
  exact ⟨rfl, rfl⟩
set_option maxRecDepth 100000 in
theorem cert_15 (w : World) : Calls Tryd.prog 82 #[.int .u8 15] w fun e w' => e = .returned (.func (.func 103) #[] #[.pointer (some ⟨w.heap.size, 0, none⟩)]) ∧ w' = w.alloc (.cells #[.func (.func 114) #[] #[]] 142) := by
  go_enter Tryd.func82, Tryd.ntmps82
  go_wp2_with (go_at_call 102; (with_reducible refine (whether_any _ _).mono ?_); rintro e w' ⟨rfl, rfl⟩)
  go_ret
  exact ⟨rfl, rfl⟩
set_option maxRecDepth 100000 in
theorem cert_16 (w : World) : Calls Tryd.prog 82 #[.int .u8 16] w fun e w' => e = .returned (.func (.func 103) #[] #[.pointer (some ⟨w.heap.size, 0, none⟩)]) ∧ w' = w.alloc (.cells #[.func (.func 115) #[] #[]] 142) := by
  go_enter Tryd.func82, Tryd.ntmps82
  go_wp2_with (go_at_call 102; (with_reducible refine (whether_any _ _).mono ?_); rintro e w' ⟨rfl, rfl⟩)
  go_ret
  exact ⟨rfl, rfl⟩
set_option maxRecDepth 100000 in
theorem cert_17 (w : World) : Calls Tryd.prog 82 #[.int .u8 17] w fun e w' => e = .returned (.func (.func 103) #[] #[.pointer (some ⟨w.heap.size, 0, none⟩)]) ∧ w' = w.alloc (.cells #[.func (.func 116) #[] #[]] 142) := by
  go_enter Tryd.func82, Tryd.ntmps82
  go_wp2_with (go_at_call 102; (with_reducible refine (whether_any _ _).mono ?_); rintro e w' ⟨rfl, rfl⟩)
  go_ret
  exact ⟨rfl, rfl⟩
set_option maxRecDepth 100000 in
theorem cert_18 (w : World) : Calls Tryd.prog 82 #[.int .u8 18] w fun e w' => e = .returned (.func (.func 103) #[] #[.pointer (some ⟨w.heap.size, 0, none⟩)]) ∧ w' = w.alloc (.cells #[.func (.func 117) #[] #[]] 142) := by
  go_enter Tryd.func82, Tryd.ntmps82
  go_wp2_with (go_at_call 102; (with_reducible refine (whether_any _ _).mono ?_); rintro e w' ⟨rfl, rfl⟩)
  go_ret
  exact ⟨rfl, rfl⟩
set_option maxRecDepth 100000 in
theorem cert_19 (w : World) : Calls Tryd.prog 82 #[.int .u8 19] w fun e w' => e = .returned (.func (.func 103) #[] #[.pointer (some ⟨w.heap.size, 0, none⟩)]) ∧ w' = w.alloc (.cells #[.func (.func 118) #[] #[]] 142) := by
  go_enter Tryd.func82, Tryd.ntmps82
  go_wp2_with (go_at_call 102; (with_reducible refine (whether_any _ _).mono ?_); rintro e w' ⟨rfl, rfl⟩)
  go_ret
  exact ⟨rfl, rfl⟩
set_option maxRecDepth 100000 in
theorem cert_22 (w : World) : Calls Tryd.prog 82 #[.int .u8 22] w fun e w' => e = .returned (.func (.func 103) #[] #[.pointer (some ⟨w.heap.size, 0, none⟩)]) ∧ w' = w.alloc (.cells #[.func (.func 119) #[] #[]] 142) := by
  go_enter Tryd.func82, Tryd.ntmps82
  go_wp2_with (go_at_call 102; (with_reducible refine (whether_any _ _).mono ?_); rintro e w' ⟨rfl, rfl⟩)
  go_ret
  exact ⟨rfl, rfl⟩
theorem wh_14 (a b : Int) (q : Nat) (w : World) (hq : w.cell? ⟨q, 0, none⟩ = some (.func (.func 113) #[] #[])) : Calls Tryd.prog 103 #[.int .i32 a, .int .i32 b, .pointer (some ⟨q, 0, none⟩)] w fun e w' => e = .returned (.int .i32 (b01 (a == b))) ∧ w = w' := by
  have C := Lib.hid (cl_5 a b w)
  generalize (a == b) = p at *
  go_enter Tryd.func103, Tryd.ntmps103
  go_wp2_with (first | (go_at_call 113; (with_reducible refine (C.out).mono ?_); rintro e w' ⟨rfl, rfl⟩) | (go_at_call 104; (with_reducible refine (truth_any _ _).mono ?_); rintro e w' ⟨rfl, rfl⟩))
  go_ret
  exact ⟨rfl, rfl⟩
theorem wh_15 (a b : Int) (q : Nat) (w : World) (hq : w.cell? ⟨q, 0, none⟩ = some (.func (.func 114) #[] #[])) : Calls Tryd.prog 103 #[.int .i32 a, .int .i32 b, .pointer (some ⟨q, 0, none⟩)] w fun e w' => e = .returned (.int .i32 (b01 (a != b))) ∧ w = w' := by
  have C := Lib.hid (cl_6 a b w)
  generalize (a != b) = p at *
  go_enter Tryd.func103, Tryd.ntmps103
  go_wp2_with (first | (go_at_call 114; (with_reducible refine (C.out).mono ?_); rintro e w' ⟨rfl, rfl⟩) | (go_at_call 104; (with_reducible refine (truth_any _ _).mono ?_); rintro e w' ⟨rfl, rfl⟩))
  go_ret
  exact ⟨rfl, rfl⟩
theorem wh_16 (a b : Int) (q : Nat) (w : World) (hq : w.cell? ⟨q, 0, none⟩ = some (.func (.func 115) #[] #[])) : Calls Tryd.prog 103 #[.int .i32 a, .int .i32 b, .pointer (some ⟨q, 0, none⟩)] w fun e w' => e = .returned (.int .i32 (b01 (decide (a < b)))) ∧ w = w' := by
  have C := Lib.hid (cl_7 a b w)
  generalize (decide (a < b)) = p at *
  go_enter Tryd.func103, Tryd.ntmps103
  go_wp2_with (first | (go_at_call 115; (with_reducible refine (C.out).mono ?_); rintro e w' ⟨rfl, rfl⟩) | (go_at_call 104; (with_reducible refine (truth_any _ _).mono ?_); rintro e w' ⟨rfl, rfl⟩))
  go_ret
  exact ⟨rfl, rfl⟩
theorem wh_17 (a b : Int) (q : Nat) (w : World) (hq : w.cell? ⟨q, 0, none⟩ = some (.func (.func 116) #[] #[])) : Calls Tryd.prog 103 #[.int .i32 a, .int .i32 b, .pointer (some ⟨q, 0, none⟩)] w fun e w' => e = .returned (.int .i32 (b01 (decide (b < a)))) ∧ w = w' := by
  have C := Lib.hid (cl_8 a b w)
  generalize (decide (b < a)) = p at *
  go_enter Tryd.func103, Tryd.ntmps103
  go_wp2_with (first | (go_at_call 116; (with_reducible refine (C.out).mono ?_); rintro e w' ⟨rfl, rfl⟩) | (go_at_call 104; (with_reducible refine (truth_any _ _).mono ?_); rintro e w' ⟨rfl, rfl⟩))
  go_ret
  exact ⟨rfl, rfl⟩
theorem wh_18 (a b : Int) (q : Nat) (w : World) (hq : w.cell? ⟨q, 0, none⟩ = some (.func (.func 117) #[] #[])) : Calls Tryd.prog 103 #[.int .i32 a, .int .i32 b, .pointer (some ⟨q, 0, none⟩)] w fun e w' => e = .returned (.int .i32 (b01 (decide (a ≤ b)))) ∧ w = w' := by
  have C := Lib.hid (cl_9 a b w)
  generalize (decide (a ≤ b)) = p at *
  go_enter Tryd.func103, Tryd.ntmps103
  go_wp2_with (first | (go_at_call 117; (with_reducible refine (C.out).mono ?_); rintro e w' ⟨rfl, rfl⟩) | (go_at_call 104; (with_reducible refine (truth_any _ _).mono ?_); rintro e w' ⟨rfl, rfl⟩))
  go_ret
  exact ⟨rfl, rfl⟩
theorem wh_19 (a b : Int) (q : Nat) (w : World) (hq : w.cell? ⟨q, 0, none⟩ = some (.func (.func 118) #[] #[])) : Calls Tryd.prog 103 #[.int .i32 a, .int .i32 b, .pointer (some ⟨q, 0, none⟩)] w fun e w' => e = .returned (.int .i32 (b01 (decide (b ≤ a)))) ∧ w = w' := by
  have C := Lib.hid (cl_10 a b w)
  generalize (decide (b ≤ a)) = p at *
  go_enter Tryd.func103, Tryd.ntmps103
  go_wp2_with (first | (go_at_call 118; (with_reducible refine (C.out).mono ?_); rintro e w' ⟨rfl, rfl⟩) | (go_at_call 104; (with_reducible refine (truth_any _ _).mono ?_); rintro e w' ⟨rfl, rfl⟩))
  go_ret
  exact ⟨rfl, rfl⟩
theorem wh_22 (a b : Int) (ha : W1.isW a) (hb : W1.isW b) (q : Nat) (w : World) (hq : w.cell? ⟨q, 0, none⟩ = some (.func (.func 119) #[] #[])) : Calls Tryd.prog 103 #[.int .i32 a, .int .i32 b, .pointer (some ⟨q, 0, none⟩)] w fun e w' => e = .returned (.int .i32 (b01 (W1.aftB a b))) ∧ w = w' := by
  have C := Lib.hid (W1.After_any a b ha hb w)
  generalize W1.aftB a b = p at *
  go_enter Tryd.func103, Tryd.ntmps103
  go_wp2_with (first | (go_at_call 119; (with_reducible refine (C.out).mono ?_); rintro e w' ⟨rfl, rfl⟩) | (go_at_call 104; (with_reducible refine (truth_any _ _).mono ?_); rintro e w' ⟨rfl, rfl⟩))
  go_ret
  exact ⟨rfl, rfl⟩
end Go.Proofs.YtblckajejohlbaaDoor
