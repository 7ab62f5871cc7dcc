/- The reference's sums and differences. -/
import Derived.Test.YtikfbooihacjfaaLists
namespace Go.Proofs.Ytikfbooihacjfaa
open Go Go.RowKit

set_option maxHeartbeats 1000000 in
theorem wrap_any (x : Int) (h0 : -4294967296 ≤ x) (h1 : x ≤ 4294967295) (w : World) : Calls Try.prog 37 #[.int .i64 x] w fun e w' => e = .returned (.tuple #[.int .i32 (wrap32 x), .bool (overB x)]) ∧ w = w' := by
  by_cases a : x < -2147483648
  · have E := Lib.hid (show x + 4294967296 = wrap32 x by unfold wrap32; omega)
    have F := Lib.hid (show true = overB x by unfold overB; simp; omega)
    have d1 : ¬ (2147483648 : Int) ≤ x := by omega
    have d2 : ¬ x + 4294967296 < -2147483648 := by omega
    go_enter Try.func37, Try.ntmps37
    go_wp2
    refine wp_loop_rounds 1 ?_; rw [rounds_succ]
    go_wp2
    refine wp_loop_rounds 2 ?_; rw [rounds_succ]
    go_wp2
    rw [rounds_succ]
    go_wp2
    go_ret2
    exact ⟨ret_ib E.out F.out, rfl⟩
  · by_cases b : (2147483648 : Int) ≤ x
    · have E := Lib.hid (show x - 4294967296 = wrap32 x by unfold wrap32; omega)
      have F := Lib.hid (show true = overB x by unfold overB; simp; omega)
      have d1 : ¬ (2147483648 : Int) ≤ x - 4294967296 := by omega
      have d2 : ¬ x - 4294967296 < -2147483648 := by omega
      go_enter Try.func37, Try.ntmps37
      go_wp2
      refine wp_loop_rounds 2 ?_; rw [rounds_succ]
      go_wp2
      rw [rounds_succ]
      go_wp2
      refine wp_loop_rounds 1 ?_; rw [rounds_succ]
      go_wp2
      go_ret2
      exact ⟨ret_ib E.out F.out, rfl⟩
    · have E := Lib.hid (show x = wrap32 x by unfold wrap32; omega)
      have F := Lib.hid (show false = overB x by unfold overB; simp; omega)
      go_enter Try.func37, Try.ntmps37
      go_wp2
      refine wp_loop_rounds 1 ?_; rw [rounds_succ]
      go_wp2
      refine wp_loop_rounds 1 ?_; rw [rounds_succ]
      go_wp2
      go_ret2
      exact ⟨ret_ib E.out F.out, rfl⟩
theorem RAdd_any (a b c : Int) (ha : isW a) (hb : isW b) (hc : isW c) (w : World) : Calls Try.prog 12 #[.int .i32 a, .int .i32 b, .int .i32 c] w fun e w' => e = .returned (.tuple #[.int .i32 (wrap32 (a + b + c % 2)), .bool (overB (a + b + c % 2))]) ∧ Below w.heap.size w w' := by
  have HC := Lib.hid (bits_any c hc)
  rw [← cb_cast c, ← cb_bt c]
  unfold isW at ha hb
  obtain ⟨a0, a1⟩ := ha
  obtain ⟨b0, b1⟩ := hb
  obtain ⟨c0, c1⟩ := bt_bd (U c) 0
  generalize U c = z at *
  have HW := Lib.hid (wrap_any (a + b + bt z 0) (by omega) (by omega))
  go_enter Try.func12, Try.ntmps12
  go_wp2_with (first
    | (go_at_call 38; refine (HC.out _).mono ?_; rintro e w1 ⟨g1, k1, rfl, hown1, hb1⟩; have hcell := hown1.at_ 0 (by omega); rw [Nat.zero_add] at hcell; have hown := Lib.hid hown1; clear hown1)
    | (go_at_call 37; refine (HW.out _).mono ?_; rintro e w' ⟨rfl, rfl⟩))
  go_ret2
  exact ⟨rfl, hb1⟩
theorem RSub_any (a b c : Int) (ha : isW a) (hb : isW b) (hc : isW c) (w : World) : Calls Try.prog 14 #[.int .i32 a, .int .i32 b, .int .i32 c] w fun e w' => e = .returned (.tuple #[.int .i32 (wrap32 (a - b - c % 2)), .bool (overB (a - b - c % 2))]) ∧ Below w.heap.size w w' := by
  have HC := Lib.hid (bits_any c hc)
  rw [← cb_cast c, ← cb_bt c]
  unfold isW at ha hb
  obtain ⟨a0, a1⟩ := ha
  obtain ⟨b0, b1⟩ := hb
  obtain ⟨c0, c1⟩ := bt_bd (U c) 0
  generalize U c = z at *
  have HW := Lib.hid (wrap_any (a - b - bt z 0) (by omega) (by omega))
  go_enter Try.func14, Try.ntmps14
  go_wp2_with (first
    | (go_at_call 38; refine (HC.out _).mono ?_; rintro e w1 ⟨g1, k1, rfl, hown1, hb1⟩; have hcell := hown1.at_ 0 (by omega); rw [Nat.zero_add] at hcell; have hown := Lib.hid hown1; clear hown1)
    | (go_at_call 37; refine (HW.out _).mono ?_; rintro e w' ⟨rfl, rfl⟩))
  go_ret2
  exact ⟨rfl, hb1⟩
end Go.Proofs.Ytikfbooihacjfaa
