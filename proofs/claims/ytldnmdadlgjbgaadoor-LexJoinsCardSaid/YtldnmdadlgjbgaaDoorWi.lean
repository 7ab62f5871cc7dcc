/- Contracts of the integer functions of package word and of its reference: what each returns, for all words. -/
import Derived.Test.YtldnmdadlgjbgaaDoorRows
import Derived.Test.YtldnmdadlgjbgaaDoorNum
import Derived.WalkKit
import Derived.WalkSpells
import Derived.WalkLawsBesides
import Derived.Handy
import Derived.Laws.Shifts
import Derived.Lib.Hide
set_option linter.unusedVariables false
set_option linter.unusedSimpArgs false
namespace Go.Proofs.YtldnmdadlgjbgaaDoor.W1
open Go Go.RowKit

/-- The number does not fit into a word. -/
def overB (x : Int) : Bool := !(decide (-2147483648 ≤ x) && decide (x < 2147483648))

theorem ret_ib {k : IntKind} {a b : Int} {p q : Bool} (h : a = b) (h' : p = q) : Ending.returned (.tuple #[.int k a, .bool p]) = .returned (.tuple #[.int k b, .bool q]) := by rw [h, h']
theorem ret_i {k : IntKind} {a b : Int} (h : a = b) : Ending.returned (.int k a) = .returned (.int k b) := by rw [h]
theorem ret_b {p q : Bool} (h : p = q) : Ending.returned (.bool p) = .returned (.bool q) := by rw [h]

theorem red64_any (x : Int) (w : World) : Calls Tryd.prog 92 #[.int .i64 x] w fun e w' => e = .returned (.int .i32 (wrap32 x)) ∧ w = w' := by
  go_enter Tryd.func92, Tryd.ntmps92
  go_wp2
  go_ret
  exact ⟨rfl, rfl⟩
theorem redu_any (x : Int) (w : World) : Calls Tryd.prog 60 #[.int .u32 x] w fun e w' => e = .returned (.int .i32 (wrap32 x)) ∧ w = w' := by
  go_enter Tryd.func60, Tryd.ntmps60
  go_wp2
  go_ret
  exact ⟨rfl, rfl⟩
theorem wrap32_over (x : Int) : (wrap64 (wrap32 x) != x) = overB x := by
  unfold overB wrap64 wrap32
  by_cases h : -2147483648 ≤ x <;> by_cases h' : x < 2147483648 <;> simp [h, h'] <;> omega
/-- A word. -/
def isW (a : Int) : Prop := -2147483648 ≤ a ∧ a ≤ 2147483647
theorem isW_wrap32 (x : Int) : isW (wrap32 x) := by unfold isW wrap32; omega
theorem isW_of_wf {a : Int} (h : (Lit.int .i32 a).wf = true) : isW a := by
  simp only [Lit.wf, IntKind.min, IntKind.max, IntKind.signed, IntKind.bits, Bool.and_eq_true, decide_eq_true_eq, if_true] at h
  exact ⟨by omega, by omega⟩

theorem mul_bd {a b : Int} (ha : isW a) (hb : isW b) : -4611686018427387904 ≤ a * b ∧ a * b ≤ 4611686018427387904 := by
  unfold isW at ha hb
  have h1 : a.natAbs ≤ 2147483648 := by omega
  have h2 : b.natAbs ≤ 2147483648 := by omega
  have h3 : (a * b).natAbs ≤ 2147483648 * 2147483648 := by rw [Int.natAbs_mul]; exact Nat.mul_le_mul h1 h2
  omega
/-- After: the difference is above 0. -/
def aftB (a b : Int) : Bool := decide (0 < wrap32 (a - b))
/-- The quotient, the remainder; whether there is none. -/
def divB (a b : Int) : Bool := (b == 0) || ((a == -2147483648) && (b == -1))
def divR (a b : Int) : Int := if divB a b = true then 0 else a.tdiv b
theorem tdiv_bd {a b : Int} (ha : isW a) (hb : ¬ b = 0) (h : ¬ (a = -2147483648 ∧ b = -1)) : isW (a.tdiv b) := by
  unfold isW at *
  obtain ⟨a0, a1⟩ := ha
  have hn : (a.tdiv b).natAbs = a.natAbs / b.natAbs := Int.natAbs_tdiv ..
  by_cases hb1 : b.natAbs = 1
  · rw [hb1, Nat.div_one] at hn
    rcases (show b = 1 ∨ b = -1 by omega) with rfl | rfl
    · rw [Int.tdiv_one]; exact ⟨a0, a1⟩
    · have : a ≠ -2147483648 := fun e => h ⟨e, rfl⟩
      omega
  · have h2 : a.natAbs / b.natAbs ≤ a.natAbs / 2 := Nat.div_le_div_left (by omega) (by omega)
    omega
theorem wrap32_in {x : Int} (h : isW x) : wrap32 x = x := by unfold isW at h; unfold wrap32; omega
def remR (a b : Int) : Int := if b == 0 then 0 else a.tmod b
theorem tmod_bd {a b : Int} (ha : isW a) : isW (a.tmod b) := by
  unfold isW at *
  have hn : (a.tmod b).natAbs = a.natAbs % b.natAbs := Int.natAbs_tmod ..
  have hm : a.natAbs % b.natAbs ≤ a.natAbs := Nat.mod_le ..
  obtain ⟨a0, a1⟩ := ha
  rcases Int.le_total 0 a with h | h
  · have := Int.tmod_nonneg b h
    omega
  · have := Int.tmod_nonneg (a := -a) b (by omega)
    rw [Int.neg_tmod] at this
    omega
/-- The number of places that counts. -/
def plc (n : Int) : Nat := min (n % 4294967296).toNat 32
def shlR (a n : Int) : Int := wrap32 (a * 2 ^ plc n)
def shrR (a n : Int) : Int := wrap32 ((a % 4294967296) / 2 ^ plc n)
theorem shl_form (a x : Int) : wrap32 (IntKind.u32.wrap (a % 4294967296 * x)) = wrap32 (a * x) := by
  rw [IntKind.wrap_u32, show a = a % 4294967296 + 4294967296 * (a / 4294967296) by omega]
  generalize a / 4294967296 = q
  generalize a % 4294967296 = r
  have h1 : (r + 4294967296 * q) % 4294967296 = r % 4294967296 := by omega
  rw [h1]
  have h2 : (r + 4294967296 * q) * x = r * x + 4294967296 * (q * x) := by rw [Int.add_mul, Int.mul_assoc]
  rw [h2]
  have h3 : (r % 4294967296 * x) % 4294967296 = (r * x) % 4294967296 := by rw [Int.mul_emod, Int.emod_emod_of_dvd _ (Int.dvd_refl _), ← Int.mul_emod]
  rw [h3]
  unfold wrap32
  omega
theorem Shr_any (a b : Int) (w : World) : Calls Tryd.prog 38 #[.int .i32 a, .int .i32 b] w fun e w' => e = .returned (.int .i32 (shrR a b)) ∧ w = w' := by
  have hp : 0 ≤ b % 4294967296 := by omega
  go_enter Tryd.func38, Tryd.ntmps38
  go_wp2_with (go_at_call 60; refine (redu_any _ _).mono ?_; rintro e w' ⟨rfl, rfl⟩)
  go_ret
  exact ⟨ret_i rfl, rfl⟩
def xwR (a b : Int) : Int := if a % 4294967296 < b % 4294967296 then a else wrap32 (a - 2 * b)
def cwB (a b : Int) : Bool := decide (b ≤ a) || decide (a < wrap32 (0 - b))
end Go.Proofs.YtldnmdadlgjbgaaDoor.W1
