/- The reference's shifts. -/
import Derived.Test.YtikfbooihacjfaaRef3
import Derived.Test.YtikfbooihacjfaaDivs
namespace Go.Proofs.Ytikfbooihacjfaa
open Go Go.RowKit

theorem shlD_big (D k : Nat) (h : 64 ≤ k) : shlD D k = 0 := by
  unfold shlD
  obtain ⟨j, rfl⟩ := Nat.exists_eq_add_of_le h
  rw [Nat.pow_add, ← Nat.mul_assoc, Nat.mul_right_comm, show (2 : Nat) ^ 64 = 18446744073709551616 by decide, Nat.mul_mod_left]
theorem shrD_big (D k : Nat) (hD : D < 18446744073709551616) (h : 64 ≤ k) : shrD D k = 0 := by
  unfold shrD
  rw [Nat.div_eq_of_lt (Nat.lt_of_lt_of_le hD (Nat.pow_le_pow_right (n := 2) (by decide) h))]
theorem hiW_zero : hiW 0 = 0 := by unfold hiW wd wrap32; omega
theorem wd_zero : wd 0 = 0 := by unfold wd wrap32; omega
theorem Row.trunc64 {w : World} {g m k : Nat} (h : Row w g 64 (m * 2 ^ k)) : Row w g 64 (shlD m k) := h.trunc
theorem right_row (g cx x k : Nat) (hk : k < 64) (hx64 : x < 18446744073709551616) (w : World) (hx : Row w g 64 x) :
    Calls Try.prog 54 #[.slice (some ⟨g, 0, none⟩) 64 cx, .int .i64 (k : Int)] w (MadeBits w 64 (shrD x k)) := lright_any g cx x k hk hx64 w hx.2 hx.1
theorem small_word {n : Int} (hn : isW n) (h : U n < 64) : ∃ k : Nat, n = (k : Int) ∧ k < 64 ∧ U n = k := by
  unfold isW at hn
  unfold U at *
  exact ⟨n.toNat, by omega, by omega, by omega⟩
theorem RShl_big (hi lo n : Int) (hn : isW n) (h : 64 ≤ U n) (w : World) : Calls Try.prog 29 #[.int .i32 hi, .int .i32 lo, .int .i32 n] w fun e w' => e = .returned (.tuple #[.int .i32 0, .int .i32 0]) ∧ Below w.heap.size w w' := by
  have HB := Lib.hid (Value_any n hn)
  generalize U n = x at *
  have h' : (64 : Int) ≤ (x : Int) := by omega
  go_enter Try.func29, Try.ntmps29
  go_wp2_with (go_at_call 49; (with_reducible refine (HB.out _).mono ?_); rintro e w' ⟨rfl, rfl⟩)
  go_ret2
  exact ⟨rfl, Below.refl _ _⟩
theorem RShr_big (hi lo n : Int) (hn : isW n) (h : 64 ≤ U n) (w : World) : Calls Try.prog 31 #[.int .i32 hi, .int .i32 lo, .int .i32 n] w fun e w' => e = .returned (.tuple #[.int .i32 0, .int .i32 0]) ∧ Below w.heap.size w w' := by
  have HB := Lib.hid (Value_any n hn)
  generalize U n = x at *
  have h' : (64 : Int) ≤ (x : Int) := by omega
  go_enter Try.func31, Try.ntmps31
  go_wp2_with (go_at_call 49; (with_reducible refine (HB.out _).mono ?_); rintro e w' ⟨rfl, rfl⟩)
  go_ret2
  exact ⟨rfl, Below.refl _ _⟩
set_option maxHeartbeats 1000000 in
theorem RShl_small (hi lo : Int) (k : Nat) (hh : isW hi) (hl : isW lo) (hk : k < 64) (w : World) : Calls Try.prog 29 #[.int .i32 hi, .int .i32 lo, .int .i32 (k : Int)] w fun e w' =>
    e = .returned (.tuple #[.int .i32 (hiW (shlD (DW hi lo) k)), .int .i32 (wd (shlD (DW hi lo) k))]) ∧ Below w.heap.size w w' := by
  have hv := Value_any (k : Int) (by unfold isW; omega)
  rw [show U (k : Int) = k by unfold U; omega] at hv
  have HV := Lib.hid hv
  clear hv
  have HD := Lib.hid (double_any hi lo hh hl)
  generalize DW hi lo = D at *
  have h' : ¬ (64 : Int) ≤ (k : Int) := by omega
  have hs := shlD_lt D k
  go_enter Try.func29, Try.ntmps29
  go_wp2_with (first
    | (go_at_call 49; (with_reducible refine (HV.out _).mono ?_); rintro e w' ⟨rfl, rfl⟩)
    | (go_at_call 46; (with_reducible refine (HD.out _).mono ?_); rintro e w1 ⟨g1, k1, rfl, hown1, hb1⟩; have r1 := hown1.toRow; clear hown1)
    | (go_at_call 47; (with_reducible refine (left_row _ _ _ _ hk _ r1).mono ?_); rintro e w2 ⟨g2, k2, rfl, hown2, hb2⟩; have r2 := hown2.toRow.trunc64; obtain ⟨hc1, hc2⟩ := hown2.capd; clear hown2))
  have c1 : (64 : Int) ≤ (k2 : Int) := by omega
  have c2 : ¬ k2 = 32 := by omega
  unfold maxLen at hc2
  go_wp2
  go_quiet ((go_at_call 45; first | (with_reducible exact word_lo _ _ _ _ _ r2) | (with_reducible exact word_hi _ _ _ _ _ r2 hs)))
  go_wp2
  go_ret2
  exact ⟨rfl, below_drewN (hb1.trans (hb2.mono hb1.size)) _⟩
set_option maxHeartbeats 1000000 in
theorem RShr_small (hi lo : Int) (k : Nat) (hh : isW hi) (hl : isW lo) (hk : k < 64) (w : World) : Calls Try.prog 31 #[.int .i32 hi, .int .i32 lo, .int .i32 (k : Int)] w fun e w' =>
    e = .returned (.tuple #[.int .i32 (hiW (shrD (DW hi lo) k)), .int .i32 (wd (shrD (DW hi lo) k))]) ∧ Below w.heap.size w w' := by
  have hv := Value_any (k : Int) (by unfold isW; omega)
  rw [show U (k : Int) = k by unfold U; omega] at hv
  have HV := Lib.hid hv
  clear hv
  have HD := Lib.hid (double_any hi lo hh hl)
  have hDl := DW_lt hi lo
  generalize DW hi lo = D at *
  have h' : ¬ (64 : Int) ≤ (k : Int) := by omega
  have hs := shrD_lt hDl k
  go_enter Try.func31, Try.ntmps31
  go_wp2_with (first
    | (go_at_call 49; (with_reducible refine (HV.out _).mono ?_); rintro e w' ⟨rfl, rfl⟩)
    | (go_at_call 46; (with_reducible refine (HD.out _).mono ?_); rintro e w1 ⟨g1, k1, rfl, hown1, hb1⟩; have r1 := hown1.toRow; clear hown1)
    | (go_at_call 54; (with_reducible refine (right_row _ _ _ _ hk hDl _ r1).mono ?_); rintro e w2 ⟨g2, k2, rfl, hown2, hb2⟩; have r2 := hown2.toRow; obtain ⟨hc1, hc2⟩ := hown2.capd; clear hown2))
  have c1 : (64 : Int) ≤ (k2 : Int) := by omega
  have c2 : ¬ k2 = 32 := by omega
  unfold maxLen at hc2
  go_wp2
  go_quiet ((go_at_call 45; first | (with_reducible exact word_lo _ _ _ _ _ r2) | (with_reducible exact word_hi _ _ _ _ _ r2 hs)))
  go_wp2
  go_ret2
  exact ⟨rfl, below_drewN (hb1.trans (hb2.mono hb1.size)) _⟩
theorem RShl_any (hi lo n : Int) (hh : isW hi) (hl : isW lo) (hn : isW n) (w : World) : Calls Try.prog 29 #[.int .i32 hi, .int .i32 lo, .int .i32 n] w fun e w' =>
    e = .returned (.tuple #[.int .i32 (hiW (shlD (DW hi lo) (U n))), .int .i32 (wd (shlD (DW hi lo) (U n)))]) ∧ Below w.heap.size w w' := by
  by_cases h : 64 ≤ U n
  · rw [shlD_big _ _ h, hiW_zero, wd_zero]; exact RShl_big hi lo n hn h w
  · obtain ⟨k, rfl, hk, e⟩ := small_word hn (by omega)
    rw [e]; exact RShl_small hi lo k hh hl hk w
theorem RShr_any (hi lo n : Int) (hh : isW hi) (hl : isW lo) (hn : isW n) (w : World) : Calls Try.prog 31 #[.int .i32 hi, .int .i32 lo, .int .i32 n] w fun e w' =>
    e = .returned (.tuple #[.int .i32 (hiW (shrD (DW hi lo) (U n))), .int .i32 (wd (shrD (DW hi lo) (U n)))]) ∧ Below w.heap.size w w' := by
  by_cases h : 64 ≤ U n
  · rw [shrD_big _ _ (DW_lt _ _) h, hiW_zero, wd_zero]; exact RShr_big hi lo n hn h w
  · obtain ⟨k, rfl, hk, e⟩ := small_word hn (by omega)
    rw [e]; exact RShr_small hi lo k hh hl hk w
theorem RXdble_any (v : Int) (w : World) : Calls Try.prog 16 #[.int .i32 v] w fun e w' => e = .returned (.tuple #[.int .i32 v, .int .i32 (sgn v)]) ∧ w = w' := by
  by_cases h : v < 0
  · have E := Lib.hid (show -1 = sgn v by unfold sgn; rw [if_pos h])
    go_enter Try.func16, Try.ntmps16
    go_wp2
    go_ret2
    exact ⟨ret_ii rfl E.out, rfl⟩
  · have E := Lib.hid (show 0 = sgn v by unfold sgn; rw [if_neg h])
    go_enter Try.func16, Try.ntmps16
    go_wp2
    go_ret2
    exact ⟨ret_ii rfl E.out, rfl⟩
theorem RCsngl_any (lo hi : Int) (w : World) : Calls Try.prog 18 #[.int .i32 lo, .int .i32 hi] w fun e w' => e = .returned (.tuple #[.int .i32 lo, .bool (hi != sgn lo)]) ∧ w = w' := by
  go_enter Try.func18, Try.ntmps18
  go_wp2_with (go_at_call 16; (with_reducible refine (RXdble_any _ _).mono ?_); rintro e w' ⟨rfl, rfl⟩)
  go_ret2
  exact ⟨rfl, rfl⟩
end Go.Proofs.Ytikfbooihacjfaa
