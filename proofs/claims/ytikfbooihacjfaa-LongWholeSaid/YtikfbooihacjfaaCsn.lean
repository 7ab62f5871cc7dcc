/- Csngl of package long. -/
import Derived.Test.YtikfbooihacjfaaLongs
import Derived.Deep.RegionHeld3
import Derived.Deep.DrawnRows
namespace Go.Proofs.Ytikfbooihacjfaa
open Go Go.RowKit
attribute [local go_sem ↓] Go.wp_at_zero Go.wp_at_succ
theorem Csngl_at (lo hi : Int) (d1 d2 : Value) (x : Bool) (c1 : ∀ w : World, Calls Try.prog 41 #[.int .i32 hi, .int .i32 lo] w fun e w' => e = .returned d1 ∧ Below w.heap.size w w') (c2 : ∀ w : World, Calls Try.prog 39 #[.int .i32 lo] w fun e w' => e = .returned d2 ∧ Below w.heap.size w w')
    (hN : ∀ w : World, (binOp .neq 45 d1 d2).run Try.prog w = .ok (.bool x) w) (hG : ∀ w : World, (eqGuard .neq 45 (.tmp 9) (.tmp 11) d1 d2).run Try.prog w = .ok () w) (w : World) :
    Calls Try.prog 17 #[.int .i32 lo, .int .i32 hi] w fun e w' => e = .returned (.tuple #[.int .i32 lo, .bool x]) ∧ Below w.heap.size w w' := by
  have C1 := Lib.hid c1
  have C2 := Lib.hid c2
  clear c1 c2
  go_enter Try.func17, Try.ntmps17
  go_wp2
  go_region_held3 (fun _ => True) (go_keep) (first
    | (go_at_call 41; refine (C1.out _).mono ?_; rintro e w1 ⟨rfl, hb1⟩)
    | (go_at_call 39; refine (C2.out _).mono ?_; rintro e w2 ⟨rfl, hb2⟩))
  all_goals go_wp2
  go_ret2
  exact ⟨rfl, ((Below.refl _ _).drew.trans (hb1.trans (hb2.mono hb1.size)))⟩
theorem Csngl_any (lo hi : Int) (hv : isW lo) (hh : isW hi) (w : World) : Calls Try.prog 17 #[.int .i32 lo, .int .i32 hi] w fun e w' => e = .returned (.tuple #[.int .i32 lo, .bool (hi != sgn lo)]) ∧ Below w.heap.size w w' := by
  rw [← csn lo hi hv hh]
  exact Csngl_at lo hi _ _ _ (join_any hi lo) (extend_any lo hv) (neq_dv _ _) (fun w => run_eqGuard_agg w .neq _ _ _ _ _ guard_dv) w

/-! ### Sums, products -/
/-- What Diff answers: the low word of a difference, and its borrow. -/
def dif (a b c : Int) : Int := U a - U b - cb c
def bor (x : Int) : Int := if x < 0 then 1 else 0
theorem Sum_any (a b c : Int) (w : World) : Calls Try.prog 20 #[.int .i32 a, .int .i32 b, .int .i32 c] w fun e w' => e = .returned (.tuple #[.int .i32 (wd (U a + U b + cb c)), .int .i32 (((U a + U b + cb c) / 4294967296 : Nat) : Int)]) ∧ Below w.heap.size w w' := by
  have b1 := U_lt a
  have b2 := U_lt b
  have b3 := cb_le c
  have hc : U (c % 2) = cb c := by unfold cb U; omega
  have ha := unsigned_any a
  have hb := unsigned_any b
  have hd := unsigned_any (c % 2)
  rw [hc] at hd
  have hs : U a + U b + cb c < 18446744073709551616 := by omega
  have E1 := Lib.hid (show hiW (U a + U b + cb c) = (((U a + U b + cb c) / 4294967296 : Nat) : Int) by unfold hiW wd wrap32; omega)
  have D := doubleOf_any _ hs
  have W := words_any _ hs
  generalize U a = x at *
  generalize U b = y at *
  generalize cb c = z at *
  clear hc
  have HA := Lib.hid ha
  have HB := Lib.hid hb
  have HC := Lib.hid hd
  have HD := Lib.hid D
  have HW := Lib.hid W
  clear ha hb hd D W
  go_enter Try.func20, Try.ntmps20
  go_wp2_with (first
    | (go_at_call 36; refine (carryBit_any _ _).mono ?_; rintro e w' ⟨rfl, rfl⟩)
    | (go_at_call 43; refine (HA.out _).mono ?_; rintro e w' ⟨rfl, rfl⟩)
    | (go_at_call 43; refine (HC.out _).mono ?_; rintro e w' ⟨rfl, rfl⟩)
    | (go_at_call 43; refine (HB.out _).mono ?_; rintro e w' ⟨rfl, rfl⟩)
    | (go_at_call 42; refine (HD.out _).mono ?_; rintro e w1 ⟨rfl, hb1⟩)
    | (go_at_call 40; refine (HW.out _).mono ?_; rintro e w3 ⟨rfl, hb3⟩))
  go_ret2
  exact ⟨ret_ii rfl E1.out, hb1.trans (hb3.mono hb1.size)⟩
theorem Diff_any (a b c : Int) (w : World) : Calls Try.prog 22 #[.int .i32 a, .int .i32 b, .int .i32 c] w fun e w' => e = .returned (.tuple #[.int .i32 (wrap32 (dif a b c)), .int .i32 (bor (dif a b c))]) ∧ Below w.heap.size w w' := by
  have b1 := U_lt a
  have b2 := U_lt b
  have b3 := cb_le c
  have hc : U (c % 2) = cb c := by unfold cb U; omega
  have ha := unsigned_any a
  have hb := unsigned_any b
  have hd := unsigned_any (c % 2)
  rw [hc] at hd
  unfold dif
  generalize U a = x at *
  generalize U b = y at *
  generalize cb c = z at *
  clear hc
  obtain ⟨d, he⟩ : ∃ d : Nat, d = (((x : Int) - y - z) % 18446744073709551616).toNat := ⟨_, rfl⟩
  have hs : d < 18446744073709551616 := by omega
  have E0 : IntKind.u64.wrap (IntKind.u64.wrap ((x : Int) - y) - z) = d := by simp [IntKind.wrap, IntKind.bits, IntKind.signed]; omega
  have E1 := Lib.hid (show hiW d % 2 = bor ((x : Int) - y - z) by unfold hiW wd wrap32 bor; split <;> omega)
  have E2 := Lib.hid (show wd d = wrap32 ((x : Int) - y - z) by unfold wd wrap32; omega)
  have D := doubleOf_any _ hs
  have W := words_any _ hs
  rw [← E0] at D
  clear E0 he
  have HA := Lib.hid ha
  have HB := Lib.hid hb
  have HC := Lib.hid hd
  have HD := Lib.hid D
  have HW := Lib.hid W
  clear ha hb hd D W
  go_enter Try.func22, Try.ntmps22
  go_wp2_with (first
    | (go_at_call 36; refine (carryBit_any _ _).mono ?_; rintro e w' ⟨rfl, rfl⟩)
    | (go_at_call 43; refine (HA.out _).mono ?_; rintro e w' ⟨rfl, rfl⟩)
    | (go_at_call 43; refine (HC.out _).mono ?_; rintro e w' ⟨rfl, rfl⟩)
    | (go_at_call 43; refine (HB.out _).mono ?_; rintro e w' ⟨rfl, rfl⟩)
    | (go_at_call 42; refine (HD.out _).mono ?_; rintro e w1 ⟨rfl, hb1⟩)
    | (go_at_call 40; refine (HW.out _).mono ?_; rintro e w3 ⟨rfl, hb3⟩))
  go_ret2
  exact ⟨ret_ii E2.out E1.out, hb1.trans (hb3.mono hb1.size)⟩
theorem mulD_lt (a b c : Int) : U a * U b + U c < 18446744073709551616 := by
  have h1 := U_lt a
  have h2 := U_lt b
  have h3 := U_lt c
  have : U a * U b ≤ 4294967295 * 4294967295 := Nat.mul_le_mul (by omega) (by omega)
  omega
theorem Mul_any (a b c : Int) (w : World) : Calls Try.prog 24 #[.int .i32 a, .int .i32 b, .int .i32 c] w fun e w' => e = .returned (.tuple #[.int .i32 (wd (U a * U b + U c)), .int .i32 (hiW (U a * U b + U c))]) ∧ Below w.heap.size w w' := by
  have b1 := U_lt a
  have b2 := U_lt b
  have b3 := U_lt c
  have hs := mulD_lt a b c
  have ha := unsigned_any a
  have hb := unsigned_any b
  have hd := unsigned_any c
  generalize U a = x at *
  generalize U b = y at *
  generalize U c = z at *
  obtain ⟨d, he⟩ : ∃ d : Nat, d = x * y + z := ⟨_, rfl⟩
  rw [← he] at hs ⊢
  have E0 : IntKind.u64.wrap (IntKind.u64.wrap ((x : Int) * y) + z) = d := by
    rw [he]
    have : ((x : Int) * y) = ((x * y : Nat) : Int) := by simp
    rw [this]
    generalize x * y = m at *
    simp [IntKind.wrap, IntKind.bits, IntKind.signed]; omega
  have D := doubleOf_any _ hs
  have W := words_any _ hs
  rw [← E0] at D
  clear E0 he
  have HA := Lib.hid ha
  have HB := Lib.hid hb
  have HC := Lib.hid hd
  have HD := Lib.hid D
  have HW := Lib.hid W
  clear ha hb hd D W
  go_enter Try.func24, Try.ntmps24
  go_wp2_with (first
    | (go_at_call 43; refine (HA.out _).mono ?_; rintro e w' ⟨rfl, rfl⟩)
    | (go_at_call 43; refine (HC.out _).mono ?_; rintro e w' ⟨rfl, rfl⟩)
    | (go_at_call 43; refine (HB.out _).mono ?_; rintro e w' ⟨rfl, rfl⟩)
    | (go_at_call 42; refine (HD.out _).mono ?_; rintro e w1 ⟨rfl, hb1⟩)
    | (go_at_call 40; refine (HW.out _).mono ?_; rintro e w3 ⟨rfl, hb3⟩))
  go_ret2
  exact ⟨rfl, hb1.trans (hb3.mono hb1.size)⟩
end Go.Proofs.Ytikfbooihacjfaa
