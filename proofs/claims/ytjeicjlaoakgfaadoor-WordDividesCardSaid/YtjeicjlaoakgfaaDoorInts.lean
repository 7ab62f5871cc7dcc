/- Contracts of the integer functions of package word and of its reference: what each returns, for all words. -/
import Derived.Test.YtjeicjlaoakgfaaDoorRows
import Derived.Test.YtjeicjlaoakgfaaDoorNum
import Derived.WalkKit
import Derived.WalkSpells
import Derived.WalkLawsBesides
import Derived.Handy
import Derived.Laws.Shifts
import Derived.Lib.Hide
namespace Go.Proofs.YtjeicjlaoakgfaaDoor
open Go Go.RowKit

/-- The number does not fit into a word. -/
def overB (x : Int) : Bool := !(decide (-2147483648 ≤ x) && decide (x < 2147483648))

theorem ret_ib {k : IntKind} {a b : Int} {p q : Bool} (h : a = b) (h' : p = q) : Ending.returned (.tuple #[.int k a, .bool p]) = .returned (.tuple #[.int k b, .bool q]) := by rw [h, h']
theorem ret_i {k : IntKind} {a b : Int} (h : a = b) : Ending.returned (.int k a) = .returned (.int k b) := by rw [h]
theorem ret_b {p q : Bool} (h : p = q) : Ending.returned (.bool p) = .returned (.bool q) := by rw [h]

theorem red64_any (x : Int) (w : World) : Calls Tryd.prog 51 #[.int .i64 x] w fun e w' => e = .returned (.int .i32 (wrap32 x)) ∧ w = w' := by
  go_enter Tryd.func51, Tryd.ntmps51
  go_wp2
  go_ret
  exact ⟨rfl, rfl⟩
theorem redu_any (x : Int) (w : World) : Calls Tryd.prog 52 #[.int .u32 x] w fun e w' => e = .returned (.int .i32 (wrap32 x)) ∧ w = w' := by
  go_enter Tryd.func52, Tryd.ntmps52
  go_wp2
  go_ret
  exact ⟨rfl, rfl⟩
theorem wrap32_over (x : Int) : (wrap64 (wrap32 x) != x) = overB x := by
  unfold overB wrap64 wrap32
  by_cases h : -2147483648 ≤ x <;> by_cases h' : x < 2147483648 <;> simp [h, h'] <;> omega
theorem redOver_any (x : Int) (w : World) : Calls Tryd.prog 47 #[.int .i64 x] w fun e w' => e = .returned (.tuple #[.int .i32 (wrap32 x), .bool (overB x)]) ∧ w = w' := by
  go_enter Tryd.func47, Tryd.ntmps47
  go_wp2_with (go_at_call 51; refine (red64_any _ _).mono ?_; rintro e w' ⟨rfl, rfl⟩)
  go_ret2
  exact ⟨ret_ib rfl (wrap32_over x), rfl⟩

/-- A word. -/
def isW (a : Int) : Prop := -2147483648 ≤ a ∧ a ≤ 2147483647
theorem isW_wrap32 (x : Int) : isW (wrap32 x) := by unfold isW wrap32; omega
theorem isW_of_wf {a : Int} (h : (Lit.int .i32 a).wf = true) : isW a := by
  simp only [Lit.wf, IntKind.min, IntKind.max, IntKind.signed, IntKind.bits, Bool.and_eq_true, decide_eq_true_eq, if_true] at h
  exact ⟨by omega, by omega⟩

theorem Add_any (a b : Int) (ha : isW a) (hb : isW b) (w : World) : Calls Tryd.prog 13 #[.int .i32 a, .int .i32 b] w fun e w' => e = .returned (.tuple #[.int .i32 (wrap32 (a + b)), .bool (overB (a + b))]) ∧ w = w' := by
  unfold isW at ha hb
  obtain ⟨a0, a1⟩ := ha
  obtain ⟨b0, b1⟩ := hb
  go_enter Tryd.func13, Tryd.ntmps13
  go_wp2_with (go_at_call 47; refine (redOver_any _ _).mono ?_; rintro e w' ⟨rfl, rfl⟩)
  go_ret2
  exact ⟨rfl, rfl⟩
theorem Sub_any (a b : Int) (ha : isW a) (hb : isW b) (w : World) : Calls Tryd.prog 15 #[.int .i32 a, .int .i32 b] w fun e w' => e = .returned (.tuple #[.int .i32 (wrap32 (a - b)), .bool (overB (a - b))]) ∧ w = w' := by
  unfold isW at ha hb
  obtain ⟨a0, a1⟩ := ha
  obtain ⟨b0, b1⟩ := hb
  go_enter Tryd.func15, Tryd.ntmps15
  go_wp2_with (go_at_call 47; refine (redOver_any _ _).mono ?_; rintro e w' ⟨rfl, rfl⟩)
  go_ret2
  exact ⟨rfl, rfl⟩
theorem mul_bd {a b : Int} (ha : isW a) (hb : isW b) : -4611686018427387904 ≤ a * b ∧ a * b ≤ 4611686018427387904 := by
  unfold isW at ha hb
  have h1 : a.natAbs ≤ 2147483648 := by omega
  have h2 : b.natAbs ≤ 2147483648 := by omega
  have h3 : (a * b).natAbs ≤ 2147483648 * 2147483648 := by rw [Int.natAbs_mul]; exact Nat.mul_le_mul h1 h2
  omega
theorem Mul_any (a b : Int) (ha : isW a) (hb : isW b) (w : World) : Calls Tryd.prog 22 #[.int .i32 a, .int .i32 b] w fun e w' => e = .returned (.tuple #[.int .i32 (wrap32 (a * b)), .bool (overB (a * b))]) ∧ w = w' := by
  have hm := mul_bd ha hb
  unfold isW at ha hb
  obtain ⟨a0, a1⟩ := ha
  obtain ⟨b0, b1⟩ := hb
  obtain ⟨m0, m1⟩ := hm
  go_enter Tryd.func22, Tryd.ntmps22
  go_wp2_with (go_at_call 47; refine (redOver_any _ _).mono ?_; rintro e w' ⟨rfl, rfl⟩)
  go_ret2
  exact ⟨rfl, rfl⟩
theorem Sum_any (a b : Int) (ha : isW a) (hb : isW b) (w : World) : Calls Tryd.prog 17 #[.int .i32 a, .int .i32 b] w fun e w' => e = .returned (.int .i32 (wrap32 (a + b))) ∧ w = w' := by
  go_enter Tryd.func17, Tryd.ntmps17
  go_wp2_with (go_at_call 13; refine (Add_any _ _ ha hb _).mono ?_; rintro e w' ⟨rfl, rfl⟩)
  go_ret
  exact ⟨rfl, rfl⟩
theorem Diff_any (a b : Int) (ha : isW a) (hb : isW b) (w : World) : Calls Tryd.prog 18 #[.int .i32 a, .int .i32 b] w fun e w' => e = .returned (.int .i32 (wrap32 (a - b))) ∧ w = w' := by
  go_enter Tryd.func18, Tryd.ntmps18
  go_wp2_with (go_at_call 15; refine (Sub_any _ _ ha hb _).mono ?_; rintro e w' ⟨rfl, rfl⟩)
  go_ret
  exact ⟨rfl, rfl⟩
theorem Prod_any (a b : Int) (ha : isW a) (hb : isW b) (w : World) : Calls Tryd.prog 28 #[.int .i32 a, .int .i32 b] w fun e w' => e = .returned (.int .i32 (wrap32 (a * b))) ∧ w = w' := by
  go_enter Tryd.func28, Tryd.ntmps28
  go_wp2_with (go_at_call 22; refine (Mul_any _ _ ha hb _).mono ?_; rintro e w' ⟨rfl, rfl⟩)
  go_ret
  exact ⟨rfl, rfl⟩
/-- After: the difference is above 0. -/
def aftB (a b : Int) : Bool := decide (0 < wrap32 (a - b))
theorem After_any (a b : Int) (ha : isW a) (hb : isW b) (w : World) : Calls Tryd.prog 19 #[.int .i32 a, .int .i32 b] w fun e w' => e = .returned (.bool (aftB a b)) ∧ w = w' := by
  go_enter Tryd.func19, Tryd.ntmps19
  go_wp2_with (go_at_call 18; refine (Diff_any _ _ ha hb _).mono ?_; rintro e w' ⟨rfl, rfl⟩)
  go_ret
  exact ⟨ret_b rfl, rfl⟩
theorem Csub0_any (a b : Int) (w : World) : Calls Tryd.prog 35 #[.int .i32 a, .int .i32 b] w fun e w' => e = .returned (.tuple #[.int .i32 a, .bool (decide (b % 4294967296 ≤ a % 4294967296))]) ∧ w = w' := by
  go_enter Tryd.func35, Tryd.ntmps35
  go_wp2
  go_ret2
  exact ⟨ret_ib rfl rfl, rfl⟩
theorem Ccnt1_any (a b : Int) (w : World) : Calls Tryd.prog 37 #[.int .i32 a, .int .i32 b] w fun e w' => e = .returned (.tuple #[.int .i32 a, .bool ((a == 0) || decide (b % 4294967296 < a % 4294967296))]) ∧ w = w' := by
  cases h : (a == 0)
  all_goals
    go_enter Tryd.func37, Tryd.ntmps37
    go_wp2
    go_ret2
    exact ⟨ret_ib rfl rfl, rfl⟩
/-- The quotient, the remainder; whether there is none. -/
def divB (a b : Int) : Bool := (b == 0) || ((a == -2147483648) && (b == -1))
def divR (a b : Int) : Int := if divB a b = true then 0 else a.tdiv b
theorem tdiv_bd {a b : Int} (ha : isW a) (hb : ¬ b = 0) (h : ¬ (a = -2147483648 ∧ b = -1)) : isW (a.tdiv b) := by
  unfold isW at *
  obtain ⟨a0, a1⟩ := ha
  have hn : (a.tdiv b).natAbs = a.natAbs / b.natAbs := Int.natAbs_tdiv ..
  by_cases hb1 : b.natAbs = 1
  · rw [hb1, Nat.div_one] at hn
    rcases (show b = 1 ∨ b = -1 by omega) with rfl | rfl
    · rw [Int.tdiv_one]; exact ⟨a0, a1⟩
    · have : a ≠ -2147483648 := fun e => h ⟨e, rfl⟩
      omega
  · have h2 : a.natAbs / b.natAbs ≤ a.natAbs / 2 := Nat.div_le_div_left (by omega) (by omega)
    omega
theorem wrap32_in {x : Int} (h : isW x) : wrap32 x = x := by unfold isW at h; unfold wrap32; omega
theorem Div_any (a b : Int) (ha : isW a) (w : World) : Calls Tryd.prog 24 #[.int .i32 a, .int .i32 b] w fun e w' => e = .returned (.tuple #[.int .i32 (divR a b), .bool (divB a b)]) ∧ w = w' := by
  by_cases hb : b = 0
  · subst hb
    go_enter Tryd.func24, Tryd.ntmps24
    go_wp2
    go_ret2
    exact ⟨ret_ib rfl rfl, rfl⟩
  · have h1 : (b == 0) = false := by simpa using hb
    cases h2 : (a == -2147483648) <;> cases h3 : (b == -1)
    case true.true =>
      go_enter Tryd.func24, Tryd.ntmps24
      go_wp2
      go_ret2
      exact ⟨ret_ib (by unfold divR divB; rw [h2, h3]; simp) (by unfold divB; rw [h2, h3]; simp), rfl⟩
    all_goals
      have hw := tdiv_bd ha hb (by rintro ⟨rfl, rfl⟩; first | (exact absurd h2 (by decide)) | (exact absurd h3 (by decide)))
      have hd : divB a b = false := by unfold divB; rw [h1, h2, h3]; rfl
      go_enter Tryd.func24, Tryd.ntmps24
      go_wp2
      go_ret2
      exact ⟨ret_ib (by unfold divR; rw [wrap32_in hw, hd]; simp) hd.symm, rfl⟩
def remR (a b : Int) : Int := if b == 0 then 0 else a.tmod b
theorem tmod_bd {a b : Int} (ha : isW a) : isW (a.tmod b) := by
  unfold isW at *
  have hn : (a.tmod b).natAbs = a.natAbs % b.natAbs := Int.natAbs_tmod ..
  have hm : a.natAbs % b.natAbs ≤ a.natAbs := Nat.mod_le ..
  obtain ⟨a0, a1⟩ := ha
  rcases Int.le_total 0 a with h | h
  · have := Int.tmod_nonneg b h
    omega
  · have := Int.tmod_nonneg (a := -a) b (by omega)
    rw [Int.neg_tmod] at this
    omega
theorem Rem_any (a b : Int) (ha : isW a) (hb' : isW b) (w : World) : Calls Tryd.prog 26 #[.int .i32 a, .int .i32 b] w fun e w' => e = .returned (.tuple #[.int .i32 (remR a b), .bool (b == 0)]) ∧ w = w' := by
  by_cases hb : b = 0
  · subst hb
    go_enter Tryd.func26, Tryd.ntmps26
    go_wp2
    go_ret2
    exact ⟨ret_ib rfl rfl, rfl⟩
  · have h1 : (b == 0) = false := by simpa using hb
    have hw := tmod_bd (b := b) ha
    unfold isW at ha hb'
    go_enter Tryd.func26, Tryd.ntmps26
    go_wp2_with (go_at_call 51; refine (red64_any _ _).mono ?_; rintro e w' ⟨rfl, rfl⟩)
    go_ret2
    exact ⟨ret_ib (by unfold remR; rw [wrap32_in hw, h1]; simp) h1.symm, rfl⟩
/-- The number of places that counts. -/
def plc (n : Int) : Nat := min (n % 4294967296).toNat 32
def shlR (a n : Int) : Int := wrap32 (a * 2 ^ plc n)
def shrR (a n : Int) : Int := wrap32 ((a % 4294967296) / 2 ^ plc n)
theorem shl_form (a x : Int) : wrap32 (IntKind.u32.wrap (a % 4294967296 * x)) = wrap32 (a * x) := by
  rw [IntKind.wrap_u32, show a = a % 4294967296 + 4294967296 * (a / 4294967296) by omega]
  generalize a / 4294967296 = q
  generalize a % 4294967296 = r
  have h1 : (r + 4294967296 * q) % 4294967296 = r % 4294967296 := by omega
  rw [h1]
  have h2 : (r + 4294967296 * q) * x = r * x + 4294967296 * (q * x) := by rw [Int.add_mul, Int.mul_assoc]
  rw [h2]
  have h3 : (r % 4294967296 * x) % 4294967296 = (r * x) % 4294967296 := by rw [Int.mul_emod, Int.emod_emod_of_dvd _ (Int.dvd_refl _), ← Int.mul_emod]
  rw [h3]
  unfold wrap32
  omega
theorem Shl_any (a b : Int) (w : World) : Calls Tryd.prog 29 #[.int .i32 a, .int .i32 b] w fun e w' => e = .returned (.int .i32 (shlR a b)) ∧ w = w' := by
  have hp : 0 ≤ b % 4294967296 := by omega
  go_enter Tryd.func29, Tryd.ntmps29
  go_wp2_with (go_at_call 52; refine (redu_any _ _).mono ?_; rintro e w' ⟨rfl, rfl⟩)
  go_ret
  exact ⟨ret_i (shl_form a _), rfl⟩
theorem Shr_any (a b : Int) (w : World) : Calls Tryd.prog 31 #[.int .i32 a, .int .i32 b] w fun e w' => e = .returned (.int .i32 (shrR a b)) ∧ w = w' := by
  have hp : 0 ≤ b % 4294967296 := by omega
  go_enter Tryd.func31, Tryd.ntmps31
  go_wp2_with (go_at_call 52; refine (redu_any _ _).mono ?_; rintro e w' ⟨rfl, rfl⟩)
  go_ret
  exact ⟨ret_i rfl, rfl⟩
def xwR (a b : Int) : Int := if a % 4294967296 < b % 4294967296 then a else wrap32 (a - 2 * b)
theorem Xword_any (a b : Int) (ha : isW a) (hb : isW b) (w : World) : Calls Tryd.prog 39 #[.int .i32 a, .int .i32 b] w fun e w' => e = .returned (.int .i32 (xwR a b)) ∧ w = w' := by
  unfold isW at ha hb
  by_cases h : a % 4294967296 < b % 4294967296
  · have hr : xwR a b = a := by unfold xwR; rw [if_pos h]
    go_enter Tryd.func39, Tryd.ntmps39
    go_wp2
    go_ret
    exact ⟨ret_i hr.symm, rfl⟩
  · have hr : xwR a b = wrap32 (a - 2 * b) := by unfold xwR; rw [if_neg h]
    go_enter Tryd.func39, Tryd.ntmps39
    go_wp2_with (go_at_call 51; refine (red64_any _ _).mono ?_; rintro e w' ⟨rfl, rfl⟩)
    go_ret
    exact ⟨ret_i hr.symm, rfl⟩
def cwB (a b : Int) : Bool := decide (b ≤ a) || decide (a < wrap32 (0 - b))
theorem Cword_any (a b : Int) (hb : isW b) (w : World) : Calls Tryd.prog 33 #[.int .i32 a, .int .i32 b] w fun e w' => e = .returned (.tuple #[.int .i32 a, .bool (cwB a b)]) ∧ w = w' := by
  have hz : isW 0 := ⟨by omega, by omega⟩
  by_cases h : b ≤ a
  · have hr : cwB a b = true := by unfold cwB; simp [h]
    go_enter Tryd.func33, Tryd.ntmps33
    go_wp2
    go_ret2
    exact ⟨ret_ib rfl hr.symm, rfl⟩
  · have hr : cwB a b = decide (a < wrap32 (0 - b)) := by unfold cwB; simp [h]
    have H := Lib.hid hr
    clear hr
    go_enter Tryd.func33, Tryd.ntmps33
    go_wp2_with (go_at_call 18; refine (Diff_any _ _ hz hb _).mono ?_; rintro e w' ⟨rfl, rfl⟩)
    go_ret2
    exact ⟨ret_ib rfl (by rw [H.out]; simp), rfl⟩
end Go.Proofs.YtjeicjlaoakgfaaDoor
