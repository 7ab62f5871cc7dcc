/- Words and double words as numbers: plain arithmetic. -/
import Derived.Test.YtikfbooihacjfaaRows
import Derived.WalkKit
import Derived.Lib.Hide
import Derived.Deep.QuietTactic
namespace Go.Proofs.Ytikfbooihacjfaa
open Go Go.RowKit

/-- A word. -/
def isW (a : Int) : Prop := -2147483648 ≤ a ∧ a ≤ 2147483647
theorem isW_wrap32 (x : Int) : isW (wrap32 x) := by unfold isW wrap32; omega
theorem isW_of_wf {a : Int} (h : (Lit.int .i32 a).wf = true) : isW a := by
  simp only [Lit.wf, IntKind.min, IntKind.max, IntKind.signed, IntKind.bits, Bool.and_eq_true, decide_eq_true_eq, if_true] at h
  exact ⟨by omega, by omega⟩
theorem wrap32_in {x : Int} (h : isW x) : wrap32 x = x := by unfold isW at h; unfold wrap32; omega
/-- The number does not fit into a word. -/
def overB (x : Int) : Bool := !(decide (-2147483648 ≤ x) && decide (x < 2147483648))
theorem wrap32_over (x : Int) : (wrap64 (wrap32 x) != x) = overB x := by
  unfold overB wrap64 wrap32
  by_cases h : -2147483648 ≤ x <;> by_cases h' : x < 2147483648 <;> simp [h, h'] <;> omega

theorem ret_ib {k : IntKind} {a b : Int} {p q : Bool} (h : a = b) (h' : p = q) : Ending.returned (.tuple #[.int k a, .bool p]) = .returned (.tuple #[.int k b, .bool q]) := by rw [h, h']
theorem ret_ii {k : IntKind} {a b c d : Int} (h : a = b) (h' : c = d) : Ending.returned (.tuple #[.int k a, .int k c]) = .returned (.tuple #[.int k b, .int k d]) := by rw [h, h']
theorem ret_iib {k : IntKind} {a b c d : Int} {p q : Bool} (h : a = b) (h' : c = d) (h2 : p = q) : Ending.returned (.tuple #[.int k a, .int k c, .bool p]) = .returned (.tuple #[.int k b, .int k d, .bool q]) := by rw [h, h', h2]
theorem ret_iii {k : IntKind} {a b c d p q : Int} (h : a = b) (h' : c = d) (h2 : p = q) : Ending.returned (.tuple #[.int k a, .int k c, .int k p]) = .returned (.tuple #[.int k b, .int k d, .int k q]) := by rw [h, h', h2]
theorem ret_i {k : IntKind} {a b : Int} (h : a = b) : Ending.returned (.int k a) = .returned (.int k b) := by rw [h]
theorem ret_b {p q : Bool} (h : p = q) : Ending.returned (.bool p) = .returned (.bool q) := by rw [h]

/-- The unsigned value of a word; the word of a number modulo 2^32; the double word of two words, and its two words. -/
def U (a : Int) : Nat := (a % 4294967296).toNat
def wd (n : Nat) : Int := wrap32 n
def DW (hi lo : Int) : Nat := U hi * 4294967296 + U lo
def hiW (d : Nat) : Int := wd (d / 4294967296)
theorem U_lt (a : Int) : U a < 4294967296 := by unfold U; omega
theorem U_cast (a : Int) : (U a : Int) = a % 4294967296 := by unfold U; omega
theorem isW_wd (n : Nat) : isW (wd n) := isW_wrap32 _
theorem isW_hiW (n : Nat) : isW (hiW n) := isW_wrap32 _
theorem U_wd (n : Nat) : U (wd n) = n % 4294967296 := by unfold U wd wrap32; omega
theorem wd_U {a : Int} (h : isW a) : wd (U a) = a := by unfold isW at h; unfold U wd wrap32; omega
theorem wd_mod (n : Nat) : wd (n % 4294967296) = wd n := by unfold wd wrap32; omega
theorem DW_lt (hi lo : Int) : DW hi lo < 18446744073709551616 := by
  have := U_lt hi; have := U_lt lo
  unfold DW; omega
theorem DW_hilo (d : Nat) (h : d < 18446744073709551616) : DW (hiW d) (wd d) = d := by unfold DW hiW; rw [U_wd, U_wd]; omega
theorem hi_DW {hi lo : Int} (h : isW hi) : hiW (DW hi lo) = hi := by
  have := U_lt lo
  unfold hiW DW
  rw [show (U hi * 4294967296 + U lo) / 4294967296 = U hi by omega, wd_U h]
theorem lo_DW {hi lo : Int} (h : isW lo) : wd (DW hi lo) = lo := by
  rw [← wd_mod]
  have := U_lt lo
  unfold DW
  rw [show (U hi * 4294967296 + U lo) % 4294967296 = U lo by omega, wd_U h]
/-- The carry bit of a word. -/
def cb (a : Int) : Nat := U a % 2
theorem cb_le (a : Int) : cb a ≤ 1 := by unfold cb; omega
theorem cb_cast (a : Int) : (cb a : Int) = a % 2 := by unfold cb U; omega

/-- Bit i of a number, as Go's int. -/
def bt (n i : Nat) : Int := ((n / 2 ^ i % 2 : Nat) : Int)
theorem bt_bd (n i : Nat) : 0 ≤ bt n i ∧ bt n i ≤ 1 := by unfold bt; omega
/-- What is left of a number behind k halvings. -/
def qt (n k : Nat) : Int := ((n / 2 ^ k : Nat) : Int)
theorem qt_zero (n : Nat) : qt n 0 = n := by unfold qt; simp
theorem qt_mod (n k : Nat) : qt n k % 2 = bt n k := by unfold qt bt; omega
theorem qt_div (n k : Nat) : qt n k / 2 = qt n (k + 1) := by
  unfold qt
  rw [Nat.pow_succ, ← Nat.div_div_eq_div_mul]
  omega
theorem qt_bd (n k : Nat) (h : n < 4294967296) : 0 ≤ qt n k ∧ qt n k ≤ 4294967295 := by
  unfold qt
  have : n / 2 ^ k ≤ n := Nat.div_le_self _ _
  generalize n / 2 ^ k = m at *
  omega
/-- The lowest k bits of a number, the lowest first. -/
def bl (k n : Nat) : List Value := (List.range k).map fun i => .int .i64 (bt n i)
theorem bl_len (k n : Nat) : (bl k n).length = k := by simp [bl]
theorem bl_at (k n j : Nat) (h : j < k) : (bl k n)[j]? = some (.int .i64 (bt n j)) := by simp [bl, h]
theorem bl_get {k n j : Nat} {u : Value} (h : (bl k n)[j]? = some u) : j < k ∧ u = .int .i64 (bt n j) := by
  by_cases hj : j < k
  · rw [bl_at k n j hj] at h
    exact ⟨hj, by injection h with h; exact h.symm⟩
  · rw [List.getElem?_eq_none (by rw [bl_len]; omega)] at h; cases h
theorem bl_succ (k n : Nat) : bl (k + 1) n = bl k n ++ [.int .i64 (bt n k)] := by simp [bl, List.range_succ]
theorem bl_zero (n : Nat) : bl 0 n = [] := by simp [bl]
theorem bl_one (k n : Nat) : ∀ u ∈ bl k n, u.oneCell' = true := by
  intro u hu
  simp only [bl, List.mem_map] at hu
  obtain ⟨i, _, rfl⟩ := hu
  rfl
theorem bt_lo (n i k : Nat) (h : i < k) : bt (n % 2 ^ k) i = bt n i := by
  unfold bt
  have e : n % 2 ^ k / 2 ^ i % 2 = n / 2 ^ i % 2 := by
    have hk : 2 ^ k = 2 ^ i * 2 ^ (k - i) := by rw [← Nat.pow_add]; congr 1; omega
    rw [hk, Nat.mod_mul_right_div_self, show k - i = (k - i - 1) + 1 by omega, Nat.pow_succ, Nat.mul_comm (2 ^ _) 2]
    exact Nat.mod_mul_right_mod _ _ _
  rw [e]
theorem bt_of_lt (n i : Nat) (h : n < 2 ^ i) : bt n i = 0 := by unfold bt; rw [Nat.div_eq_of_lt h]; rfl
theorem bt_shl (n i k : Nat) (h : k ≤ i) : bt (n * 2 ^ k) i = bt n (i - k) := by
  unfold bt
  have e : n * 2 ^ k / 2 ^ i = n / 2 ^ (i - k) := by
    conv => lhs; rw [show i = (i - k) + k by omega, Nat.pow_add]
    exact Nat.mul_div_mul_right _ _ (Nat.pow_pos (by omega))
  rw [e]
theorem bt_shl_lo (n i k : Nat) (h : i < k) : bt (n * 2 ^ k) i = 0 := by
  unfold bt
  have e : n * 2 ^ k / 2 ^ i = 2 * (n * 2 ^ (k - i - 1)) := by
    rw [show k = (k - i - 1) + 1 + i by omega, Nat.pow_add, Nat.pow_add, ← Nat.mul_assoc, Nat.mul_div_cancel _ (Nat.pow_pos (by omega)), show k - i - 1 + 1 + i - i - 1 = k - i - 1 by omega, Nat.pow_one, ← Nat.mul_assoc, Nat.mul_comm]
  rw [e, Nat.mul_mod_right]; rfl
theorem bt_shr (n i k : Nat) : bt (n / 2 ^ k) i = bt n (i + k) := by
  unfold bt
  rw [Nat.div_div_eq_div_mul, ← Nat.pow_add, Nat.add_comm k i]
/-- The list of a double word: the low word's bits, then the high word's. -/
theorem bl_join (a b : Nat) (ha : a < 4294967296) : bl 32 a ++ bl 32 b = bl 64 (b * 4294967296 + a) := by
  apply List.ext_getElem?
  intro j
  by_cases h : j < 32
  · rw [List.getElem?_append_left (by rw [bl_len]; exact h), bl_at _ _ _ h, bl_at _ _ _ (by omega)]
    have := bt_lo (b * 4294967296 + a) j 32 h
    rw [show (b * 4294967296 + a) % 2 ^ 32 = a by omega] at this
    rw [this]
  · by_cases h' : j < 64
    · rw [List.getElem?_append_right (by rw [bl_len]; omega), bl_len, bl_at _ _ _ (by omega), bl_at _ _ _ h']
      have := bt_shr (b * 4294967296 + a) (j - 32) 32
      rw [show (b * 4294967296 + a) / 2 ^ 32 = b by omega, show j - 32 + 32 = j by omega] at this
      rw [this]
    · rw [List.getElem?_eq_none (by simp [bl_len]; omega), List.getElem?_eq_none (by rw [bl_len]; omega)]
/-- The carry into place k of a sum. -/
def cy (x y c k : Nat) : Int := (((x % 2 ^ k + y % 2 ^ k + c) / 2 ^ k : Nat) : Int)
theorem cy_zero (x y c : Nat) : cy x y c 0 = (c : Int) := by unfold cy; rw [Nat.pow_zero, Nat.mod_one, Nat.mod_one, Nat.zero_add, Nat.div_one]
theorem cy_bd (x y c k : Nat) (hc : c ≤ 1) : 0 ≤ cy x y c k ∧ cy x y c k ≤ 1 := by
  unfold cy
  have hp : 0 < 2 ^ k := Nat.pow_pos (by omega)
  have h1 : x % 2 ^ k < 2 ^ k := Nat.mod_lt _ hp
  have h2 : y % 2 ^ k < 2 ^ k := Nat.mod_lt _ hp
  have h3 : (x % 2 ^ k + y % 2 ^ k + c) / 2 ^ k < 2 := (Nat.div_lt_iff_lt_mul hp).2 (by omega)
  generalize (x % 2 ^ k + y % 2 ^ k + c) / 2 ^ k = m at *
  omega
theorem cy_step (x y c k : Nat) : (bt x k + bt y k + cy x y c k) % 2 = bt (x + y + c) k ∧ (bt x k + bt y k + cy x y c k) / 2 = cy x y c (k + 1) := by
  have hp : 0 < 2 ^ k := Nat.pow_pos (by omega)
  unfold bt cy
  rw [Nat.mod_pow_succ, Nat.mod_pow_succ]
  have e1 : (x + y + c) / 2 ^ k = x / 2 ^ k + y / 2 ^ k + (x % 2 ^ k + y % 2 ^ k + c) / 2 ^ k := by
    have hx := Nat.div_add_mod x (2 ^ k)
    have hy := Nat.div_add_mod y (2 ^ k)
    have : x + y + c = (x % 2 ^ k + y % 2 ^ k + c) + 2 ^ k * (x / 2 ^ k + y / 2 ^ k) := by rw [Nat.mul_add]; omega
    rw [this, Nat.add_mul_div_left _ _ hp]; omega
  have e2 : (x % 2 ^ k + 2 ^ k * (x / 2 ^ k % 2) + (y % 2 ^ k + 2 ^ k * (y / 2 ^ k % 2)) + c) / 2 ^ (k + 1) = (x / 2 ^ k % 2 + y / 2 ^ k % 2 + (x % 2 ^ k + y % 2 ^ k + c) / 2 ^ k) / 2 := by
    rw [Nat.pow_succ, ← Nat.div_div_eq_div_mul]
    have : x % 2 ^ k + 2 ^ k * (x / 2 ^ k % 2) + (y % 2 ^ k + 2 ^ k * (y / 2 ^ k % 2)) + c = (x % 2 ^ k + y % 2 ^ k + c) + 2 ^ k * (x / 2 ^ k % 2 + y / 2 ^ k % 2) := by rw [Nat.mul_add]; omega
    rw [this, Nat.add_mul_div_left _ _ hp]
    congr 1; omega
  rw [e1, e2]
  generalize (x % 2 ^ k + y % 2 ^ k + c) / 2 ^ k = p
  generalize x / 2 ^ k = q
  generalize y / 2 ^ k = r
  omega
/-- One bit more of a number that is written from below. -/
theorem bl_set (n v i : Nat) (b : Int) (_hi : i < n) (hb : bt v i = b) : (bl n (v % 2 ^ i)).set i (.int .i64 b) = bl n (v % 2 ^ (i + 1)) := by
  apply List.ext_getElem?
  intro j
  rw [List.getElem?_set]
  by_cases hj : i = j
  · subst hj
    rw [if_pos rfl, if_pos (by rw [bl_len]; omega), bl_at _ _ _ (by omega), bt_lo _ _ _ (by omega), hb]
  · rw [if_neg hj]
    by_cases hn : j < n
    · rw [bl_at _ _ _ hn, bl_at _ _ _ hn]
      by_cases hlt : j < i
      · rw [bt_lo _ _ _ hlt, bt_lo _ _ _ (by omega)]
      · have hp : 2 ^ (i + 1) ≤ 2 ^ j := Nat.pow_le_pow_right (by omega) (by omega)
        have hp' : 2 ^ i ≤ 2 ^ (i + 1) := Nat.pow_le_pow_right (by omega) (by omega)
        have h1 : v % 2 ^ i < 2 ^ i := Nat.mod_lt _ (Nat.pow_pos (by omega))
        have h2 : v % 2 ^ (i + 1) < 2 ^ (i + 1) := Nat.mod_lt _ (Nat.pow_pos (by omega))
        rw [bt_of_lt _ _ (by omega), bt_of_lt _ _ (by omega)]
    · rw [List.getElem?_eq_none (by rw [bl_len]; omega), List.getElem?_eq_none (by rw [bl_len]; omega)]
theorem bl_mod (n v : Nat) : bl n (v % 2 ^ n) = bl n v := by
  unfold bl
  apply List.map_congr_left
  intro i hi
  rw [bt_lo _ _ _ (by simpa using hi)]
theorem bl_null (n : Nat) : bl n 0 = List.replicate n (.int .i64 0) := by
  unfold bl bt
  apply List.ext_getElem?
  intro j
  by_cases hj : j < n
  · simp [hj]
  · rw [List.getElem?_eq_none (by simp; omega), List.getElem?_eq_none (by simp; omega)]
theorem below_drewN {B : Nat} {a w : World} (h : Below B a w) (n : Nat) : Below B a (w.drewN n) := ⟨h.os, h.tape, h.output, h.size, h.block⟩
theorem bt_zero (n : Nat) : bt n 0 = ((n % 2 : Nat) : Int) := by unfold bt; rw [Nat.pow_zero, Nat.div_one]
theorem cb_bt (a : Int) : bt (U a) 0 = (cb a : Int) := by rw [bt_zero]; rfl
theorem cy_32 (x y c : Nat) (hx : x < 4294967296) (hy : y < 4294967296) : cy x y c 32 = (((x + y + c) / 4294967296 : Nat) : Int) := by
  unfold cy
  rw [show (2 : Nat) ^ 32 = 4294967296 by decide, Nat.mod_eq_of_lt hx, Nat.mod_eq_of_lt hy]
/-- The difference of two words, modulo 2^32. -/
def dfn (x y c : Nat) : Nat := (((x : Int) - y - c) % 4294967296).toNat
theorem dfn_lt (x y c : Nat) : dfn x y c < 4294967296 := by unfold dfn; omega
theorem dfn_sum (x y c : Nat) (hx : x < 4294967296) (hy : y < 4294967296) (hc : c ≤ 1) : y + dfn x y c + c = x ∨ y + dfn x y c + c = x + 4294967296 := by unfold dfn; omega
/-- What a place of a difference holds, and what it borrows. -/
theorem dif_step (x y c k : Nat) (hx : x < 4294967296) (hy : y < 4294967296) (hc : c ≤ 1) (hk : k < 32) :
    bt x k - bt y k - cy y (dfn x y c) c k = bt (dfn x y c) k - 2 * cy y (dfn x y c) c (k + 1) := by
  obtain ⟨s1, s2⟩ := cy_step y (dfn x y c) c k
  have e : bt (y + dfn x y c + c) k = bt x k := by
    rw [← bt_lo _ k 32 hk, ← bt_lo x k 32 hk]
    rcases dfn_sum x y c hx hy hc with h | h
    · rw [h]
    · rw [h, show (2 : Nat) ^ 32 = 4294967296 by decide, Nat.add_mod_right]
  rw [e] at s1
  omega
theorem dif_out (x y c : Nat) (hx : x < 4294967296) (hy : y < 4294967296) (hc : c ≤ 1) : cy y (dfn x y c) c 32 = if (x : Int) - y - c < 0 then 1 else 0 := by
  rw [cy_32 _ _ _ hy (dfn_lt x y c)]
  unfold dfn
  split <;> omega
/-! ### Products, quotients -/
theorem mul_step_one (a b c i : Nat) (h : bt a i = 1) : c + a % 2 ^ i * b + b * 2 ^ i + 0 = c + a % 2 ^ (i + 1) * b := by
  unfold bt at h
  rw [Nat.mod_pow_succ, show a / 2 ^ i % 2 = 1 by omega, Nat.mul_one, Nat.add_mul, Nat.mul_comm b]; omega
theorem mul_step_zero (a b c i : Nat) (h : bt a i = 0) : c + a % 2 ^ i * b = c + a % 2 ^ (i + 1) * b := by
  unfold bt at h
  rw [Nat.mod_pow_succ, show a / 2 ^ i % 2 = 0 by omega, Nat.mul_zero, Nat.add_zero]
theorem mul_zero_ (a b c : Nat) : c + a % 2 ^ 0 * b = c := by rw [Nat.pow_zero, Nat.mod_one]; omega
theorem mul_end (a b c : Nat) (ha : a < 4294967296) : c + a % 2 ^ 32 * b = a * b + c := by
  rw [Nat.mod_eq_of_lt (by simpa using ha)]; omega
/-- The number whose binary quotient is written down to place k: its part above k. -/
def dq (D d k : Nat) : Nat := D / 2 ^ k / d
def dr (D d k : Nat) : Nat := D / 2 ^ k % d
theorem dq_64 (D d : Nat) (h : D < 18446744073709551616) : dq D d 64 * 2 ^ 64 = 0 := by
  unfold dq; rw [Nat.div_eq_of_lt (show D < 2 ^ 64 by simpa using h), Nat.zero_div, Nat.zero_mul]
theorem dr_64 (D d : Nat) (h : D < 18446744073709551616) : dr D d 64 = 0 := by
  unfold dr; rw [Nat.div_eq_of_lt (show D < 2 ^ 64 by simpa using h), Nat.zero_mod]
theorem dr_lt (D d k : Nat) (h : 0 < d) : dr D d k < d := Nat.mod_lt _ h
theorem half_bit (D k : Nat) : D / 2 ^ k = 2 * (D / 2 ^ (k + 1)) + (D / 2 ^ k % 2) := by
  rw [Nat.pow_succ, ← Nat.div_div_eq_div_mul]; omega
theorem div_step (D d k : Nat) (h : 0 < d) :
    ((d : Int) ≤ 2 * (dr D d (k + 1) : Int) + bt D k → (dr D d k : Int) = 2 * (dr D d (k + 1) : Int) + bt D k - d ∧ dq D d k = 2 * dq D d (k + 1) + 1) ∧
    (2 * (dr D d (k + 1) : Int) + bt D k < d → (dr D d k : Int) = 2 * (dr D d (k + 1) : Int) + bt D k ∧ dq D d k = 2 * dq D d (k + 1)) := by
  have hb := half_bit D k
  have hb' := bt_bd D k
  unfold bt at *
  unfold dr dq
  generalize D / 2 ^ (k + 1) = N at *
  generalize D / 2 ^ k % 2 = b at *
  generalize D / 2 ^ k = M at *
  subst hb
  have e := Nat.div_add_mod N d
  have hl := Nat.mod_lt N h
  generalize N / d = q at *
  generalize N % d = r at *
  subst e
  have e2 : 2 * (d * q + r) + b = (2 * r + b) + d * (2 * q) := by rw [Nat.mul_add, Nat.mul_left_comm]; omega
  rw [e2, Nat.add_mul_mod_self_left, Nat.add_mul_div_left _ _ h]
  constructor
  · intro hh
    have h1 : 2 * r + b = (2 * r + b - d) + d * 1 := by omega
    have h2 : 2 * r + b - d < d := by omega
    rw [h1, Nat.add_mul_mod_self_left, Nat.add_mul_div_left _ _ h, Nat.mod_eq_of_lt h2, Nat.div_eq_of_lt h2]
    omega
  · intro hh
    have h2 : 2 * r + b < d := by omega
    rw [Nat.mod_eq_of_lt h2, Nat.div_eq_of_lt h2]
    omega
theorem dq_even (q k : Nat) : q * 2 ^ (k + 1) = 2 * q * 2 ^ k := by rw [Nat.pow_succ, Nat.mul_comm (2 ^ k) 2, ← Nat.mul_assoc, Nat.mul_comm q 2]
theorem bl_quo (n q k : Nat) (hk : k < n) : (bl n (q * 2 ^ (k + 1))).set k (.int .i64 1) = bl n ((2 * q + 1) * 2 ^ k) := by
  apply List.ext_getElem?
  intro j
  rw [List.getElem?_set]
  by_cases hj : k = j
  · subst hj
    rw [if_pos rfl, if_pos (by rw [bl_len]; omega), bl_at _ _ _ hk, bt_shl _ _ _ (Nat.le_refl _), Nat.sub_self, bt_zero, show (2 * q + 1) % 2 = 1 by omega]
    rfl
  · rw [if_neg hj]
    by_cases hn : j < n
    · rw [bl_at _ _ _ hn, bl_at _ _ _ hn, dq_even]
      by_cases hlt : j < k
      · rw [bt_shl_lo _ _ _ hlt, bt_shl_lo _ _ _ hlt]
      · rw [bt_shl _ _ _ (by omega), bt_shl _ _ _ (by omega)]
        unfold bt
        have : ∀ m, m / 2 ^ (j - k) = m / 2 / 2 ^ (j - k - 1) := fun m => by
          rw [Nat.div_div_eq_div_mul]
          congr 1
          rw [show j - k = j - k - 1 + 1 by omega, Nat.pow_succ, Nat.mul_comm]; simp
        rw [this, this, show 2 * q / 2 = (2 * q + 1) / 2 by omega]
    · rw [List.getElem?_eq_none (by rw [bl_len]; omega), List.getElem?_eq_none (by rw [bl_len]; omega)]
end Go.Proofs.Ytikfbooihacjfaa
