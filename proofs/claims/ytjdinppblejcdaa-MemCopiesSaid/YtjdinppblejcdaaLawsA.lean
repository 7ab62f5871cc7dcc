/- The law on addresses returns true for every pair of words. -/
import Derived.Test.YtjdinppblejcdaaHead
namespace Go.Proofs.Ytjdinppblejcdaa
open Go Go.RowKit

theorem tmod4 (a : Int) : (a.tmod 4 < 0 → a.tmod 4 = a % 4 - 4) ∧ (¬ a.tmod 4 < 0 → a.tmod 4 = a % 4) := by
  rw [Int.tmod_eq_emod]
  split <;> simp <;> omega
theorem quot4 {a : Int} (ha : isW a) : wrap32 (wrap64 ((wrap64 (wrap64 a - wrap64 (a % 4))).tdiv 4)) = a / 4 := by
  unfold isW at ha
  have e1 : wrap64 (wrap64 a - wrap64 (a % 4)) = 4 * (a / 4) := by unfold wrap64; omega
  rw [e1, Int.mul_tdiv_cancel_left (a / 4) (by omega)]
  unfold wrap64 wrap32
  omega
theorem rWcnt_any {a : Int} (ha : isW a) (w : World) : Calls Try.prog 23 #[.int .i32 a] w fun e w' => e = .returned (.tuple #[.int .i32 (a / 4), .int .i32 (a % 4)]) ∧ w = w' := by
  have Q := Lib.hid (quot4 ha)
  obtain ⟨t1, t2⟩ := tmod4 a
  have T := Lib.hid (show wrap32 (a % 4) = a % 4 by unfold wrap32; omega)
  by_cases h : a.tmod 4 < 0
  · have E := Lib.hid (show wrap32 (a.tmod 4 + 4) = a % 4 by rw [t1 h]; unfold wrap32; omega)
    clear t1 t2 ha
    go_enter Try.func23, Try.ntmps23
    go_wp2
    go_ret2
    exact ⟨ret_ii (by rw [E.out]; exact Q.out) E.out, rfl⟩
  · have E := Lib.hid (t2 h)
    clear t1 t2 ha
    go_enter Try.func23, Try.ntmps23
    go_wp2
    go_ret2
    exact ⟨ret_ii (by rw [E.out]; exact Q.out) E.out, rfl⟩
theorem rBsub_any (a b : Int) (w : World) : Calls Try.prog 25 #[.int .i32 a, .int .i32 b] w fun e w' => e = .returned (.int .i32 (wrap32 (a + b))) ∧ w = w' := by
  go_enter Try.func25, Try.ntmps25
  go_wp2
  go_ret
  exact ⟨rfl, rfl⟩
theorem rWsub_any (a b : Int) (w : World) : Calls Try.prog 27 #[.int .i32 a, .int .i32 b] w fun e w' => e = .returned (.int .i32 (wrap32 (a + wrap32 (4 * b)))) ∧ w = w' := by
  go_enter Try.func27, Try.ntmps27
  go_wp2
  go_ret
  exact ⟨rfl, rfl⟩
theorem walkMemAddresses (a0 a1 : Int) (w0 : (Lit.int .i32 a0).wf = true) (w1 : (Lit.int .i32 a1).wf = true) (w : World) : Calls Try.prog 6 #[.int .i32 a0, .int .i32 a1] w fun e w' => e = .returned (.bool true) ∧ Below w.heap.size w w' := by
  have C := Lib.hid (rWcnt_any (isW_of_wf w1))
  have E1 : wrap32 (wrap32 (a0 + wrap32 (4 * (a1 / 4))) + a1 % 4) = wrap32 (a0 + a1) := by unfold wrap32; omega
  have E2 : wrap32 (wrap32 (4 * a1)) = wrap32 (4 * a1) := by unfold wrap32; omega
  clear w1
  have := w0
  clear this w0
  go_enter Try.func6, Try.ntmps6
  go_wp2_with (first
    | (go_at_call 22; (with_reducible refine (Wcnt_any _ _).mono ?_); rintro e w' ⟨rfl, rfl⟩)
    | (go_at_call 23; (with_reducible refine (C.out _).mono ?_); rintro e w' ⟨rfl, rfl⟩)
    | (go_at_call 24; (with_reducible refine (Bsub_any _ _ _).mono ?_); rintro e w' ⟨rfl, rfl⟩)
    | (go_at_call 25; (with_reducible refine (rBsub_any _ _ _).mono ?_); rintro e w' ⟨rfl, rfl⟩)
    | (go_at_call 26; (with_reducible refine (Wsub_any _ _ _).mono ?_); rintro e w' ⟨rfl, rfl⟩)
    | (go_at_call 27; (with_reducible refine (rWsub_any _ _ _).mono ?_); rintro e w' ⟨rfl, rfl⟩)
    | (go_at_call 28; (with_reducible refine (Bcnt_any _ _).mono ?_); rintro e w' ⟨rfl, rfl⟩)
    | (go_at_call 13; (with_reducible refine (head_any _).mono ?_); rintro e w' ⟨rfl, g1⟩; have H1 := Lib.hid g1; clear g1))
  go_ret
  exact ⟨rfl, g_below0 H1.out⟩
end Go.Proofs.Ytjdinppblejcdaa
