/- Division of a double word. -/
import Derived.Test.YtikfbooihacjfaaCsn
namespace Go.Proofs.Ytikfbooihacjfaa
open Go Go.RowKit
theorem ret_ii' {k : IntKind} {a b c d : Int} (h : a = b) (h' : c = d) : Ending.returned (.tuple #[.int k a, .int k c]) = .returned (.tuple #[.int k b, .int k d]) := by rw [h, h']
theorem Div32_any (h l d : Nat) (hh : h < d) (hl : l < 4294967296) (hd : d < 4294967296) (w : World) : Calls Try.prog 48 #[.int .u32 (h : Int), .int .u32 (l : Int), .int .u32 (d : Int)] w fun e w' =>
    e = .returned (.tuple #[.int .u32 (((h * 4294967296 + l) / d : Nat) : Int), .int .u32 (((h * 4294967296 + l) % d : Nat) : Int)]) ∧ Below w.heap.size w w' := by
  have O := or64 (h : Int) (l : Int) (by omega) (by omega) (by omega) (by omega)
  have q1 : (h * 4294967296 + l) / d < 4294967296 := (Nat.div_lt_iff_lt_mul (by omega)).2 (by
    have : h * 4294967296 + 4294967296 ≤ d * 4294967296 := by omega
    rw [Nat.mul_comm]; omega)
  have r1 : (h * 4294967296 + l) % d < 4294967296 := Nat.lt_trans (Nat.mod_lt _ (by omega)) hd
  obtain ⟨D, hD⟩ : ∃ D : Nat, D = h * 4294967296 + l := ⟨_, rfl⟩
  have hD1 : D < 18446744073709551616 := by omega
  have O' : bits .or .u64 ((h : Int) * 4294967296) l = (D : Int) := by rw [O, hD]; omega
  clear O
  rw [← hD] at q1 r1 ⊢
  clear hD
  have hq : ((D : Int) / (d : Int)) = ((D / d : Nat) : Int) := by simp
  have hr : ((D : Int) % (d : Int)) = ((D % d : Nat) : Int) := by simp
  have n0 : ((d : Int) != 0) = true := by have : (d : Int) ≠ 0 := by omega
                                          simpa using this
  have n1 : ¬ ((d : Int) ≤ h) := by omega
  have dpos : (1 : Int) ≤ d := by omega
  have Hq := Lib.hid q1
  have Hr := Lib.hid r1
  have Hq' := Lib.hid hq
  have Hr' := Lib.hid hr
  clear q1 r1 hq hr
  go_enter Try.func48, Try.ntmps48
  go_wp2
  go_quiet (fail)
  go_wp2
  go_ret2
  refine ⟨ret_ii' ?_ ?_, below_drewN (Below.refl _ _) _⟩
  · rw [Hq'.out]
    have := Hq.out
    generalize D / d = m at *
    simp [IntKind.wrap, IntKind.bits, IntKind.signed]; omega
  · rw [Hr'.out]
    have := Hr.out
    generalize D % d = m at *
    omega
theorem Div_over (hi lo d : Int) (h : U d ≤ U hi) (w : World) : Calls Try.prog 26 #[.int .i32 hi, .int .i32 lo, .int .i32 d] w fun e w' => e = .returned (.tuple #[.int .i32 0, .int .i32 0, .bool true]) ∧ Below w.heap.size w w' := by
  have HA := Lib.hid (unsigned_any hi)
  have HB := Lib.hid (unsigned_any d)
  generalize U hi = x at *
  generalize U d = y at *
  have h' : (y : Int) ≤ (x : Int) := by omega
  go_enter Try.func26, Try.ntmps26
  go_wp2_with (first
    | (go_at_call 43; refine (HA.out _).mono ?_; rintro e w' ⟨rfl, rfl⟩)
    | (go_at_call 43; refine (HB.out _).mono ?_; rintro e w' ⟨rfl, rfl⟩))
  go_ret3
  exact ⟨rfl, Below.refl _ _⟩
theorem Div_fits (hi lo d : Int) (h : U hi < U d) (w : World) : Calls Try.prog 26 #[.int .i32 hi, .int .i32 lo, .int .i32 d] w fun e w' =>
    e = .returned (.tuple #[.int .i32 (wd (DW hi lo / U d)), .int .i32 (wd (DW hi lo % U d)), .bool false]) ∧ Below w.heap.size w w' := by
  have HA := Lib.hid (unsigned_any hi)
  have HB := Lib.hid (unsigned_any d)
  have c := Div32_any (U hi) (U lo) (U d) h (U_lt lo) (U_lt d)
  rw [U_cast hi, U_cast lo, U_cast d] at c
  have C := Lib.hid c
  clear c
  unfold DW
  generalize (U hi * 4294967296 + U lo) / U d = q at *
  generalize (U hi * 4294967296 + U lo) % U d = r at *
  generalize U hi = x at *
  generalize U d = y at *
  have h' : ¬ (y : Int) ≤ (x : Int) := by omega
  go_enter Try.func26, Try.ntmps26
  go_wp2_with (first
    | (go_at_call 43; refine (HA.out _).mono ?_; rintro e w' ⟨rfl, rfl⟩)
    | (go_at_call 43; refine (HB.out _).mono ?_; rintro e w' ⟨rfl, rfl⟩)
    | (go_at_call 48; refine (C.out _).mono ?_; rintro e w1 ⟨rfl, hb1⟩))
  go_ret3
  exact ⟨rfl, hb1⟩
end Go.Proofs.Ytikfbooihacjfaa
