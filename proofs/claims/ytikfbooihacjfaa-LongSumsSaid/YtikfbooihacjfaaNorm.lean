/- Normalizing: the program's Norm and the reference's. -/
import Derived.Test.YtikfbooihacjfaaRef4
import Derived.Test.YtikfbooihacjfaaShelf
namespace Go.Proofs.Ytikfbooihacjfaa
open Go Go.RowKit

def up (D k : Nat) : Nat := D * 2 ^ k
/-- The number of places by which a double word is normalized. -/
def nrm (D : Nat) : Nat := 64 - Lib.bitLen D
theorem bitLen_at (D k : Nat) (h0 : 2 ^ k ≤ D) (h1 : D < 2 ^ (k + 1)) (hD : D < 18446744073709551616) : Lib.bitLen D = k + 1 := by
  rw [Lib.bitLen_shift k D h0 (by simpa using hD)]
  have : D / 2 ^ k = 1 := Nat.div_eq_of_lt_le (by omega) (by rw [Nat.pow_succ] at h1; omega)
  rw [this]
  rfl
theorem nrm_at (D k : Nat) (hk : k < 64) (h0 : 9223372036854775808 ≤ up D k) (h1 : up D k < 18446744073709551616) : k = nrm D := by
  unfold up at *
  have hp : 0 < 2 ^ k := Nat.pow_pos (by omega)
  have e63 : (2 : Nat) ^ (63 - k) * 2 ^ k = 9223372036854775808 := by rw [← Nat.pow_add, show 63 - k + k = 63 by omega]
  have e64 : (2 : Nat) ^ (63 - k + 1) * 2 ^ k = 18446744073709551616 := by rw [← Nat.pow_add, show 63 - k + 1 + k = 64 by omega]
  have a : 2 ^ (63 - k) ≤ D := Nat.le_of_mul_le_mul_right (by rw [e63]; exact h0) hp
  have b : D < 2 ^ (63 - k + 1) := Nat.lt_of_mul_lt_mul_right (a := 2 ^ k) (by rw [e64]; exact h1)
  have hD : D < 18446744073709551616 := Nat.lt_of_le_of_lt (Nat.le_mul_of_pos_right D hp) h1
  unfold nrm
  rw [bitLen_at D (63 - k) a b hD]
  omega
theorem nrm_zero : nrm 0 = 64 := by decide
theorem up_zero (k : Nat) : up 0 k = 0 := by unfold up; rw [Nat.zero_mul]
theorem nrm_fit (D : Nat) (h0 : D ≠ 0) (hD : D < 18446744073709551616) : nrm D < 64 ∧ up D (nrm D) < 18446744073709551616 ∧ 9223372036854775808 ≤ up D (nrm D) := by
  have a := Nat.log2_self_le h0
  have b : D < 2 ^ (Nat.log2 D + 1) := Nat.lt_log2_self
  have hk : Nat.log2 D < 64 := (Nat.log2_lt h0).2 (by simpa using hD)
  generalize Nat.log2 D = k at *
  have e := bitLen_at D k a b hD
  have en : nrm D = 63 - k := by unfold nrm; omega
  rw [en]
  unfold up
  have hp : 0 < 2 ^ (63 - k) := Nat.pow_pos (by omega)
  have e63 : 2 ^ k * (2 : Nat) ^ (63 - k) = 9223372036854775808 := by rw [← Nat.pow_add, show k + (63 - k) = 63 by omega]
  have e64 : 2 ^ (k + 1) * (2 : Nat) ^ (63 - k) = 18446744073709551616 := by rw [← Nat.pow_add, show k + 1 + (63 - k) = 64 by omega]
  refine ⟨by omega, ?_, ?_⟩
  · rw [← e64]; exact Nat.mul_lt_mul_of_pos_right b hp
  · rw [← e63]; exact Nat.mul_le_mul_right _ a
theorem nrm_le (D : Nat) : nrm D ≤ 64 := by unfold nrm; omega
theorem shl_up (D k : Nat) (h : up D k < 18446744073709551616) : shlD D k = up D k := Nat.mod_eq_of_lt h
theorem up_succ (D k : Nat) (h : up D k < 9223372036854775808) : shlD (up D k) 1 = up D (k + 1) ∧ up D (k + 1) < 18446744073709551616 := by
  have : up D (k + 1) = up D k * 2 := by unfold up; rw [Nat.pow_succ, Nat.mul_assoc]
  rw [this]
  unfold shlD
  rw [Nat.pow_one]
  omega
theorem hiW_neg {m : Nat} (h : m < 18446744073709551616) : (hiW m < 0 ↔ 9223372036854775808 ≤ m) := by unfold hiW wd wrap32; omega
theorem up_64 (D : Nat) (h : up D 64 < 18446744073709551616) : D = 0 := by
  unfold up at h
  rcases Nat.eq_zero_or_pos D with h0 | h0
  · exact h0
  · have : 1 * 2 ^ 64 ≤ D * 2 ^ 64 := Nat.mul_le_mul_right _ h0
    omega

/-- What both answer. -/
def nrmE (D : Nat) : Ending := .returned (.tuple #[.int .i32 (hiW (up D (nrm D))), .int .i32 (wd (up D (nrm D))), .int .i32 (nrm D : Int)])
theorem one_U : U 1 = 1 := by decide
set_option maxHeartbeats 1000000 in
theorem RNorm_at (D : Nat) (hD : D < 18446744073709551616) (w : World) : Calls Try.prog 33 #[.int .i32 (hiW (up D 0)), .int .i32 (wd (up D 0))] w fun e w' => e = nrmE D ∧ Below w.heap.size w w' := by
  have h0 : up D 0 < 18446744073709551616 := by unfold up; rw [Nat.pow_zero, Nat.mul_one]; exact hD
  have HS : ∀ k, up D k < 9223372036854775808 → ∀ w : World, Calls Try.prog 29 #[.int .i32 (hiW (up D k)), .int .i32 (wd (up D k)), .int .i32 1] w fun e w' =>
      e = .returned (.tuple #[.int .i32 (hiW (up D (k + 1))), .int .i32 (wd (up D (k + 1)))]) ∧ Below w.heap.size w w' := fun k hk w => by
    have c := RShl_any (hiW (up D k)) (wd (up D k)) 1 (isW_hiW _) (isW_wd _) (by unfold isW; omega) w
    rw [one_U, DW_hilo _ (by omega), (up_succ D k hk).1] at c
    exact c
  have HS' := Lib.hid HS
  clear HS
  go_enter Try.func33, Try.ntmps33
  go_wp2
  go_loopw [0, 1, 7] (fun h l n wr => ∃ k : Nat, k ≤ 64 ∧ up D k < 18446744073709551616 ∧ n = .int .i32 k ∧ h = .int .i32 (hiW (up D k)) ∧ l = .int .i32 (wd (up D k)) ∧ Below w.heap.size w wr) (fun _ _ n _ => 64 - (intOf n).toNat)
  case atStart => exact ⟨0, Nat.zero_le _, h0, rfl, rfl, rfl, Below.refl _ _⟩
  case round =>
    obtain ⟨k, hk, hup, rfl, rfl, rfl, hbel⟩ := hrel
    have hneg := hiW_neg hup
    by_cases hlt : k < 64
    · have hlt' : (k : Int) < 64 := by omega
      by_cases hs : up D k < 9223372036854775808
      · have hpos : (0 : Int) ≤ hiW (up D k) := by omega
        have hup' := (up_succ D k hs).2
        have HC := Lib.hid (HS'.out k hs)
        have HP := Lib.hid hup'
        clear hneg hup hup' hs h0
        go_wp2_with (go_at_call 29; (with_reducible refine (HC.out _).mono ?_); rintro e w1 ⟨rfl, hb1⟩)
        go_roundw
        case rel => exact ⟨k + 1, by omega, HP.out, by go_num, rfl, rfl, hbel.trans (hb1.mono hbel.size)⟩
        case measure => simp [intOf]; omega
      · have hpos : ¬ (0 : Int) ≤ hiW (up D k) := by omega
        have E := Lib.hid (nrm_at D k hlt (by omega) hup)
        clear hneg hup hs h0
        go_wp2
        go_ret3
        exact ⟨by unfold nrmE; rw [← E.out]; rfl, hbel⟩
    · have hk' : k = 64 := by omega
      subst hk'
      have E := Lib.hid (up_64 D hup)
      have hlt' : ¬ ((64 : Nat) : Int) < 64 := by omega
      clear hneg hup h0
      go_wp2
      go_ret3
      exact ⟨by unfold nrmE; rw [E.out, nrm_zero]; rfl, hbel⟩
theorem RNorm_any (hi lo : Int) (hh : isW hi) (hl : isW lo) (w : World) : Calls Try.prog 33 #[.int .i32 hi, .int .i32 lo] w fun e w' => e = nrmE (DW hi lo) ∧ Below w.heap.size w w' := by
  have h := RNorm_at (DW hi lo) (DW_lt _ _) w
  have e : up (DW hi lo) 0 = DW hi lo := by unfold up; rw [Nat.pow_zero, Nat.mul_one]
  rw [e, hi_DW hh, lo_DW hl] at h
  exact h

/-! ### The program's -/
theorem Norm_yes (hi lo p q : Int) (hj : ∀ w : World, Calls Try.prog 41 #[.int .i32 hi, .int .i32 lo] w fun e w' => e = .returned (.agg #[.int .u32 p, .int .u32 q]) ∧ Below w.heap.size w w')
    (hE : ∀ w : World, (binOp .eql 45 (.agg #[.int .u32 p, .int .u32 q]) (.agg #[.int .u32 0, .int .u32 0])).run Try.prog w = .ok (.bool true) w) (hG : Try.prog.eqGuardType Try.prog.depth 45 = false) (w : World) :
    Calls Try.prog 32 #[.int .i32 hi, .int .i32 lo] w fun e w' => e = .returned (.tuple #[.int .i32 0, .int .i32 0, .int .i32 64]) ∧ Below w.heap.size w w' := by
  have HJ := Lib.hid hj
  clear hj
  go_enter Try.func32, Try.ntmps32
  go_wp2_with (go_at_call 41; (with_reducible refine (HJ.out _).mono ?_); rintro e w1 ⟨rfl, hb1⟩)
  go_ret3
  exact ⟨rfl, hb1.alloc hb1.size _⟩
theorem Norm_no (hi lo p q m n H L : Int) (hj : ∀ w : World, Calls Try.prog 41 #[.int .i32 hi, .int .i32 lo] w fun e w' => e = .returned (.agg #[.int .u32 p, .int .u32 q]) ∧ Below w.heap.size w w')
    (hE : ∀ w : World, (binOp .eql 45 (.agg #[.int .u32 p, .int .u32 q]) (.agg #[.int .u32 0, .int .u32 0])).run Try.prog w = .ok (.bool false) w) (hG : Try.prog.eqGuardType Try.prog.depth 45 = false)
    (hv : ∀ w : World, Calls Try.prog 56 #[.agg #[.int .u32 p, .int .u32 q]] w fun e w' => e = .returned (.int .u64 m) ∧ Below w.heap.size w w')
    (hz : ∀ w : World, Calls Try.prog 55 #[.int .u64 m] w fun e w' => e = .returned (.int .i64 n) ∧ w = w') (n0 : 0 ≤ n) (n1 : n ≤ 64)
    (hs : ∀ w : World, Calls Try.prog 28 #[.int .i32 hi, .int .i32 lo, .int .i32 n] w fun e w' => e = .returned (.tuple #[.int .i32 H, .int .i32 L]) ∧ Below w.heap.size w w') (w : World) :
    Calls Try.prog 32 #[.int .i32 hi, .int .i32 lo] w fun e w' => e = .returned (.tuple #[.int .i32 H, .int .i32 L, .int .i32 n]) ∧ Below w.heap.size w w' := by
  have HJ := Lib.hid hj
  have HV := Lib.hid hv
  have HZ := Lib.hid hz
  have HS := Lib.hid hs
  clear hj hv hz hs
  go_enter Try.func32, Try.ntmps32
  go_wp2_with (first
    | (go_at_call 41; (with_reducible refine (HJ.out _).mono ?_); rintro e w1 ⟨rfl, hb1⟩)
    | (go_at_call 56; (with_reducible refine (HV.out _).mono ?_); rintro e w2 ⟨rfl, hb2⟩)
    | (go_at_call 55; (with_reducible refine (HZ.out _).mono ?_); rintro e w' ⟨rfl, rfl⟩)
    | (go_at_call 28; (with_reducible refine (HS.out _).mono ?_); rintro e w3 ⟨rfl, hb3⟩))
  go_ret3
  have hz1 : w.heap.size ≤ w1.heap.size := hb1.size
  have hz2 : w1.heap.size + 1 ≤ w2.heap.size := by have := hb2.size; simp at this; omega
  exact ⟨rfl, ((hb1.alloc hz1 _).trans (hb2.mono (by simp; omega))).trans (hb3.mono (by omega))⟩
theorem h32_zero : h32 0 = 0 := by unfold h32; omega
theorem l32_zero : l32 0 = 0 := by unfold l32; omega
theorem eql_zero (D : Nat) (w : World) : (binOp .eql 45 (.agg #[.int .u32 (h32 D), .int .u32 (l32 D)]) (.agg #[.int .u32 0, .int .u32 0])).run Try.prog w = .ok (.bool (D == 0)) w := by
  have h := eql_dv D 0 w
  unfold dv at h
  rw [h32_zero, l32_zero] at h
  rw [h]
  have e : (h32 D == 0 && l32 D == 0) = (D == 0) := by
    rw [Bool.eq_iff_iff]
    unfold h32 l32
    simp only [Bool.and_eq_true, beq_iff_eq]
    omega
  rw [e]
theorem Norm_any (hi lo : Int) (w : World) : Calls Try.prog 32 #[.int .i32 hi, .int .i32 lo] w fun e w' => e = nrmE (DW hi lo) ∧ Below w.heap.size w w' := by
  have hD := DW_lt hi lo
  by_cases h0 : DW hi lo = 0
  · have c := Norm_yes hi lo (h32 (DW hi lo)) (l32 (DW hi lo)) (join_any hi lo) (fun w => by have := eql_zero (DW hi lo) w; rw [h0] at this ⊢; exact this) guard_dv w
    have e : nrmE (DW hi lo) = .returned (.tuple #[.int .i32 0, .int .i32 0, .int .i32 64]) := by unfold nrmE; rw [h0, nrm_zero, up_zero, hiW_zero, wd_zero]; rfl
    rw [e]
    exact c
  · obtain ⟨f1, f2, f3⟩ := nrm_fit _ h0 hD
    have hn : (nrm (DW hi lo) : Int) = 64 - (Lib.bitLen ((DW hi lo : Nat) : Int).toNat : Int) := by
      rw [Int.toNat_natCast]
      have : Lib.bitLen (DW hi lo) ≤ 64 := by
        have a := Nat.log2_self_le h0
        have b : DW hi lo < 2 ^ (Nat.log2 (DW hi lo) + 1) := Nat.lt_log2_self
        have hk : Nat.log2 (DW hi lo) < 64 := (Nat.log2_lt h0).2 (by simpa using hD)
        rw [bitLen_at _ _ a b hD]
        omega
      unfold nrm
      omega
    have hu : U (nrm (DW hi lo) : Int) = nrm (DW hi lo) := by have := nrm_le (DW hi lo); unfold U; omega
    have hs : ∀ w : World, Calls Try.prog 28 #[.int .i32 hi, .int .i32 lo, .int .i32 (nrm (DW hi lo) : Int)] w fun e w' =>
        e = .returned (.tuple #[.int .i32 (hiW (up (DW hi lo) (nrm (DW hi lo)))), .int .i32 (wd (up (DW hi lo) (nrm (DW hi lo))))]) ∧ Below w.heap.size w w' := fun w => by
      have c := Shl_any hi lo (nrm (DW hi lo) : Int) w
      rw [hu, shl_up _ _ f2] at c
      exact c
    have hz : ∀ w : World, Calls Try.prog 55 #[.int .u64 ((DW hi lo : Nat) : Int)] w fun e w' => e = .returned (.int .i64 (nrm (DW hi lo) : Int)) ∧ w = w' := fun w => by
      rw [hn]
      exact (Try.bits_LeadingZeros64 ((DW hi lo : Nat) : Int) w (by omega) (by omega)).mono fun _ _ h => ⟨h.1, h.2.symm⟩
    exact Norm_no hi lo (h32 (DW hi lo)) (l32 (DW hi lo)) ((DW hi lo : Nat) : Int) (nrm (DW hi lo) : Int) _ _ (join_any hi lo) (fun w => by rw [eql_zero]; simp [h0]) guard_dv (value_any _ hD) hz (by omega) (by have := nrm_le (DW hi lo); omega) hs w
end Go.Proofs.Ytikfbooihacjfaa
