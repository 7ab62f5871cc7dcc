/- The program: valid trees. -/
import Derived.BigGuard
import Derived.Test.YtimbiobonigdmaaGreatDoorM06
set_option linter.unusedVariables false
set_option linter.unusedSimpArgs false
set_option linter.unusedVariables false
set_option linter.unusedSimpArgs false
namespace Go.Proofs.YtimbiobonigdmaaGreatDoor
open Go Go.RowKit L8 L10

set_option maxRecDepth 100000 in
set_option maxHeartbeats 16000000 in
theorem mayAlone_row7 (e : Ex) (A : Option Addr) (n c : Nat) (w : World) (hk0 : (1 : Int) ≤ (e.k : Int)) (hk2 : (e.k : Int) < 10) (a0 a1 : Int) (a2 a3 a4 a5 a7 : Nat) (a6 bn bs p0 p1 p2 p3 p4 p5 p7 : Bool) (q0 : ((e.k : Int) == 0) = false)
    (d0 : decide (a0 ≤ e.n) = p0) (d1 : decide (e.n ≤ a1) = p1) (d2 : decide ((a2 : Int) ≤ (e.o : Int)) = p2) (d3 : decide ((e.o : Int) ≤ (a3 : Int)) = p3) (d4 : decide ((a4 : Int) ≤ (e.t : Int)) = p4) (d5 : decide ((e.t : Int) ≤ (a5 : Int)) = p5)
    (u2 : decide (a2 ≤ e.o) = p2) (u3 : decide (e.o ≤ a3) = p3) (u4 : decide (a4 ≤ e.t) = p4) (u5 : decide (e.t ≤ a5) = p5) (d7 : ((n : Int) == (a7 : Int)) = p7) (S : ByteArray) (qs : S.toList.isEmpty = bs)
    (CN : Hid (∀ W : World, Calls Tryz.prog 90 #[.string S] W fun en w' => en = .returned (.bool bn) ∧ W = w'))
    (V : World) (hV : w.alloc (.cells #[.int .u8 (e.k : Int), .int .u8 (e.o : Int), .int .u8 (e.t : Int), .int .i32 e.n, .string S, .slice A n c] 27) = V) (hB : Hid (Below w.heap.size w V))
    (g0 : V.cell? ⟨0, e.k * 8, none⟩ = some (.int .i32 a0)) (g1 : V.cell? ⟨0, e.k * 8 + 1, none⟩ = some (.int .i32 a1)) (g2 : V.cell? ⟨0, e.k * 8 + 2, none⟩ = some (.int .u8 (a2 : Int))) (g3 : V.cell? ⟨0, e.k * 8 + 3, none⟩ = some (.int .u8 (a3 : Int)))
    (g4 : V.cell? ⟨0, e.k * 8 + 4, none⟩ = some (.int .u8 (a4 : Int))) (g5 : V.cell? ⟨0, e.k * 8 + 5, none⟩ = some (.int .u8 (a5 : Int))) (g6 : V.cell? ⟨0, e.k * 8 + 6, none⟩ = some (.bool a6)) (g7 : V.cell? ⟨0, e.k * 8 + 7, none⟩ = some (.int .i64 (a7 : Int)))
    (hBX : Hid (∀ bb : Bool, Below w.heap.size w (V.alloc (.cells #[.int .i32 a0, .int .i32 a1, .int .u8 (a2 : Int), .int .u8 (a3 : Int), .int .u8 (a4 : Int), .int .u8 (a5 : Int), .bool bb, .int .i64 (a7 : Int)] 114)))) (hp : p0 = true ∧ p1 = true ∧ p2 = true ∧ p3 = true ∧ p4 = true ∧ p5 = true ∧ a6 = true ∧ bn = true) :
    Calls Tryz.prog 69 #[.agg #[.int .u8 (e.k : Int), .int .u8 (e.o : Int), .int .u8 (e.t : Int), .int .i32 e.n, .string S, .slice A n c]] w fun en w' => en = .returned (.bool (p0 && (p1 && (p2 && (p3 && (p4 && (p5 && ((if a6 = true then bn else bs) && p7)))))))) ∧ Below w.heap.size w w' := by
  subst hV
  obtain ⟨rfl, rfl, rfl, rfl, rfl, rfl, rfl, rfl⟩ := hp
  simp only [Bool.false_and, Bool.true_and, Bool.false_eq_true, if_true, if_false]
  go_enter Tryz.func69, Tryz.ntmps69
  go_wp2_with (go_at_call 90; (with_reducible refine (CN.out _).mono ?_); rintro e1 w1 ⟨rfl, rfl⟩)
  all_goals (go_ret; exact ⟨rfl, hBX.out _⟩)
set_option maxRecDepth 100000 in
set_option maxHeartbeats 16000000 in
theorem mayAlone_row8 (e : Ex) (A : Option Addr) (n c : Nat) (w : World) (hk0 : (1 : Int) ≤ (e.k : Int)) (hk2 : (e.k : Int) < 10) (a0 a1 : Int) (a2 a3 a4 a5 a7 : Nat) (a6 bn bs p0 p1 p2 p3 p4 p5 p7 : Bool) (q0 : ((e.k : Int) == 0) = false)
    (d0 : decide (a0 ≤ e.n) = p0) (d1 : decide (e.n ≤ a1) = p1) (d2 : decide ((a2 : Int) ≤ (e.o : Int)) = p2) (d3 : decide ((e.o : Int) ≤ (a3 : Int)) = p3) (d4 : decide ((a4 : Int) ≤ (e.t : Int)) = p4) (d5 : decide ((e.t : Int) ≤ (a5 : Int)) = p5)
    (u2 : decide (a2 ≤ e.o) = p2) (u3 : decide (e.o ≤ a3) = p3) (u4 : decide (a4 ≤ e.t) = p4) (u5 : decide (e.t ≤ a5) = p5) (d7 : ((n : Int) == (a7 : Int)) = p7) (S : ByteArray) (qs : S.toList.isEmpty = bs)
    (CN : Hid (∀ W : World, Calls Tryz.prog 90 #[.string S] W fun en w' => en = .returned (.bool bn) ∧ W = w'))
    (V : World) (hV : w.alloc (.cells #[.int .u8 (e.k : Int), .int .u8 (e.o : Int), .int .u8 (e.t : Int), .int .i32 e.n, .string S, .slice A n c] 27) = V) (hB : Hid (Below w.heap.size w V))
    (g0 : V.cell? ⟨0, e.k * 8, none⟩ = some (.int .i32 a0)) (g1 : V.cell? ⟨0, e.k * 8 + 1, none⟩ = some (.int .i32 a1)) (g2 : V.cell? ⟨0, e.k * 8 + 2, none⟩ = some (.int .u8 (a2 : Int))) (g3 : V.cell? ⟨0, e.k * 8 + 3, none⟩ = some (.int .u8 (a3 : Int)))
    (g4 : V.cell? ⟨0, e.k * 8 + 4, none⟩ = some (.int .u8 (a4 : Int))) (g5 : V.cell? ⟨0, e.k * 8 + 5, none⟩ = some (.int .u8 (a5 : Int))) (g6 : V.cell? ⟨0, e.k * 8 + 6, none⟩ = some (.bool a6)) (g7 : V.cell? ⟨0, e.k * 8 + 7, none⟩ = some (.int .i64 (a7 : Int)))
    (hBX : Hid (∀ bb : Bool, Below w.heap.size w (V.alloc (.cells #[.int .i32 a0, .int .i32 a1, .int .u8 (a2 : Int), .int .u8 (a3 : Int), .int .u8 (a4 : Int), .int .u8 (a5 : Int), .bool bb, .int .i64 (a7 : Int)] 114)))) (hp : p0 = true ∧ p1 = true ∧ p2 = true ∧ p3 = true ∧ p4 = true ∧ p5 = true ∧ a6 = false ∧ bs = false) :
    Calls Tryz.prog 69 #[.agg #[.int .u8 (e.k : Int), .int .u8 (e.o : Int), .int .u8 (e.t : Int), .int .i32 e.n, .string S, .slice A n c]] w fun en w' => en = .returned (.bool (p0 && (p1 && (p2 && (p3 && (p4 && (p5 && ((if a6 = true then bn else bs) && p7)))))))) ∧ Below w.heap.size w w' := by
  subst hV
  obtain ⟨rfl, rfl, rfl, rfl, rfl, rfl, rfl, rfl⟩ := hp
  simp only [Bool.false_and, Bool.true_and, Bool.false_eq_true, if_true, if_false]
  go_enter Tryz.func69, Tryz.ntmps69
  go_wp2_with (go_at_call 90; (with_reducible refine (CN.out _).mono ?_); rintro e1 w1 ⟨rfl, rfl⟩)
  all_goals (go_ret; exact ⟨rfl, hBX.out _⟩)
set_option maxRecDepth 100000 in
set_option maxHeartbeats 16000000 in
theorem mayAlone_row9 (e : Ex) (A : Option Addr) (n c : Nat) (w : World) (hk0 : (1 : Int) ≤ (e.k : Int)) (hk2 : (e.k : Int) < 10) (a0 a1 : Int) (a2 a3 a4 a5 a7 : Nat) (a6 bn bs p0 p1 p2 p3 p4 p5 p7 : Bool) (q0 : ((e.k : Int) == 0) = false)
    (d0 : decide (a0 ≤ e.n) = p0) (d1 : decide (e.n ≤ a1) = p1) (d2 : decide ((a2 : Int) ≤ (e.o : Int)) = p2) (d3 : decide ((e.o : Int) ≤ (a3 : Int)) = p3) (d4 : decide ((a4 : Int) ≤ (e.t : Int)) = p4) (d5 : decide ((e.t : Int) ≤ (a5 : Int)) = p5)
    (u2 : decide (a2 ≤ e.o) = p2) (u3 : decide (e.o ≤ a3) = p3) (u4 : decide (a4 ≤ e.t) = p4) (u5 : decide (e.t ≤ a5) = p5) (d7 : ((n : Int) == (a7 : Int)) = p7) (S : ByteArray) (qs : S.toList.isEmpty = bs)
    (CN : Hid (∀ W : World, Calls Tryz.prog 90 #[.string S] W fun en w' => en = .returned (.bool bn) ∧ W = w'))
    (V : World) (hV : w.alloc (.cells #[.int .u8 (e.k : Int), .int .u8 (e.o : Int), .int .u8 (e.t : Int), .int .i32 e.n, .string S, .slice A n c] 27) = V) (hB : Hid (Below w.heap.size w V))
    (g0 : V.cell? ⟨0, e.k * 8, none⟩ = some (.int .i32 a0)) (g1 : V.cell? ⟨0, e.k * 8 + 1, none⟩ = some (.int .i32 a1)) (g2 : V.cell? ⟨0, e.k * 8 + 2, none⟩ = some (.int .u8 (a2 : Int))) (g3 : V.cell? ⟨0, e.k * 8 + 3, none⟩ = some (.int .u8 (a3 : Int)))
    (g4 : V.cell? ⟨0, e.k * 8 + 4, none⟩ = some (.int .u8 (a4 : Int))) (g5 : V.cell? ⟨0, e.k * 8 + 5, none⟩ = some (.int .u8 (a5 : Int))) (g6 : V.cell? ⟨0, e.k * 8 + 6, none⟩ = some (.bool a6)) (g7 : V.cell? ⟨0, e.k * 8 + 7, none⟩ = some (.int .i64 (a7 : Int)))
    (hBX : Hid (∀ bb : Bool, Below w.heap.size w (V.alloc (.cells #[.int .i32 a0, .int .i32 a1, .int .u8 (a2 : Int), .int .u8 (a3 : Int), .int .u8 (a4 : Int), .int .u8 (a5 : Int), .bool bb, .int .i64 (a7 : Int)] 114)))) (hp : p0 = true ∧ p1 = true ∧ p2 = true ∧ p3 = true ∧ p4 = true ∧ p5 = true ∧ a6 = false ∧ bs = true) :
    Calls Tryz.prog 69 #[.agg #[.int .u8 (e.k : Int), .int .u8 (e.o : Int), .int .u8 (e.t : Int), .int .i32 e.n, .string S, .slice A n c]] w fun en w' => en = .returned (.bool (p0 && (p1 && (p2 && (p3 && (p4 && (p5 && ((if a6 = true then bn else bs) && p7)))))))) ∧ Below w.heap.size w w' := by
  subst hV
  obtain ⟨rfl, rfl, rfl, rfl, rfl, rfl, rfl, rfl⟩ := hp
  simp only [Bool.false_and, Bool.true_and, Bool.false_eq_true, if_true, if_false]
  go_enter Tryz.func69, Tryz.ntmps69
  go_wp2_with (go_at_call 90; (with_reducible refine (CN.out _).mono ?_); rintro e1 w1 ⟨rfl, rfl⟩)
  all_goals (go_ret; exact ⟨rfl, hBX.out _⟩)
end Go.Proofs.YtimbiobonigdmaaGreatDoor
