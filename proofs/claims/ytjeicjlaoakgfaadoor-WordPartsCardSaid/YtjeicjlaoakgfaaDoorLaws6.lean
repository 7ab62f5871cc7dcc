/- The law on part words returns true for all words and signs. -/
import Derived.Test.YtjeicjlaoakgfaaDoorLaws3
namespace Go.Proofs.YtjeicjlaoakgfaaDoor
open Go Go.RowKit

/-! ### Part words -/
theorem u32_mask (a n : Nat) (ha : a < 4294967296) (hn : n < 32) : bits .and .u32 (a : Int) ((2 ^ (n + 1) : Nat) - 1 : Int) = ((a % 2 ^ (n + 1) : Nat) : Int) := by
  have h1 : 1 ≤ 2 ^ (n + 1) := Nat.one_le_two_pow
  have h2 : 2 ^ (n + 1) ≤ 2 ^ 32 := Nat.pow_le_pow_right (by decide) (by omega)
  have h3 : (2 : Nat) ^ 32 = 4294967296 := by decide
  have e : ((2 ^ (n + 1) : Nat) - 1 : Int) = ((2 ^ (n + 1) - 1 : Nat) : Int) := by omega
  rw [e, u32_and_nat a (2 ^ (n + 1) - 1) ha (by omega), Nat.and_two_pow_sub_one_eq_mod]
theorem i32_bit (p n : Nat) (hn : n ≤ 30) (hp : p < 2 ^ (n + 1)) : bits .and .i32 (p : Int) ((2 ^ n : Nat) : Int) = if 2 ^ n ≤ p then ((2 ^ n : Nat) : Int) else 0 := by
  have h2 : 2 ^ (n + 1) ≤ 2 ^ 31 := Nat.pow_le_pow_right (by decide) (by omega)
  have h3 : (2 : Nat) ^ 31 = 2147483648 := by decide
  have h4 : 2 ^ (n + 1) = 2 * 2 ^ n := by rw [Nat.pow_succ, Nat.mul_comm]
  show IntKind.i32.wrap ((BitVec.ofInt 32 (p : Int) &&& BitVec.ofInt 32 ((2 ^ n : Nat) : Int)).toNat : Int) = _
  have e1 : ∀ m : Nat, m < 4294967296 → (BitVec.ofInt 32 (m : Int)).toNat = m := fun m hm => by
    rw [BitVec.ofInt_natCast, BitVec.toNat_ofNat]; exact Nat.mod_eq_of_lt (by omega)
  rw [BitVec.toNat_and, e1 p (by omega), e1 (2 ^ n) (by omega), IntKind.wrap_i32]
  have hb : p.testBit n = decide (2 ^ n ≤ p) := by
    rw [Nat.testBit_eq_decide_div_mod_eq]
    by_cases h : 2 ^ n ≤ p
    · have : p / 2 ^ n = 1 := Nat.div_eq_of_lt_le (by omega) (by omega)
      simp [this, h]
    · have : p / 2 ^ n = 0 := Nat.div_eq_of_lt (by omega)
      simp [this, h]
  have ha : p &&& 2 ^ n = if 2 ^ n ≤ p then 2 ^ n else 0 := by
    apply Nat.eq_of_testBit_eq
    intro j
    rw [Nat.testBit_and, Nat.testBit_two_pow]
    by_cases hj : n = j
    · subst hj
      rw [hb]
      by_cases h : 2 ^ n ≤ p
      · rw [if_pos h, Nat.testBit_two_pow]; simp [h]
      · rw [if_neg h]; simp [h]
    · by_cases h : 2 ^ n ≤ p
      · rw [if_pos h, Nat.testBit_two_pow]; simp [hj]
      · rw [if_neg h]; simp [hj]
  rw [ha]
  generalize 2 ^ n = S at *
  by_cases h : S ≤ p
  · rw [if_pos h, if_pos h]; omega
  · rw [if_neg h, if_neg h]; simp
theorem wrap_pow (n : Nat) (hn : n ≤ 30) : wrap32 ((2 : Int) ^ n) = ((2 ^ n : Nat) : Int) := by
  have h2 : 2 ^ n ≤ 2 ^ 30 := Nat.pow_le_pow_right (by decide) hn
  have h3 : (2 : Nat) ^ 30 = 1073741824 := by decide
  have hc : ((2 ^ n : Nat) : Int) = (2 : Int) ^ n := by push_cast; rfl
  rw [← hc]
  clear hc
  generalize 2 ^ n = S at *
  unfold wrap32
  omega
theorem xw_lo (S p : Nat) (hS1 : S ≤ 1073741824) (hlt : p < S) : xwR (p : Int) (S : Int) = (p : Int) := by
  have h : (p : Int) % 4294967296 < (S : Int) % 4294967296 := by omega
  unfold xwR
  rw [if_pos h]
theorem xw_hi (S p : Nat) (hS1 : S ≤ 1073741824) (hlt : ¬ p < S) (hp : p < 2 * S) : xwR (p : Int) (S : Int) = (p : Int) - 2 * S := by
  have h : ¬ (p : Int) % 4294967296 < (S : Int) % 4294967296 := by omega
  unfold xwR
  rw [if_neg h]
  unfold wrap32
  omega
theorem cw_lo (S p : Nat) (h0 : 1 ≤ S) (hS1 : S ≤ 1073741824) (hlt : p < S) : cwB (p : Int) (S : Int) = false := by
  have h1 : ¬ (S : Int) ≤ p := by omega
  have h2 : ¬ (p : Int) < wrap32 (0 - S) := by unfold wrap32; omega
  unfold cwB
  rw [decide_eq_false h1, decide_eq_false h2]
  rfl
theorem cw_hi (S p : Nat) (hlt : ¬ p < S) : cwB (p : Int) (S : Int) = true := by
  have h1 : (S : Int) ≤ p := by omega
  unfold cwB
  rw [decide_eq_true h1]
  rfl
theorem cw_neg (S p : Nat) (h0 : 1 ≤ S) (hS1 : S ≤ 1073741824) (hlt : ¬ p < S) (hp : p < 2 * S) : cwB ((p : Int) - 2 * S) (S : Int) = false := by
  have h1 : ¬ (S : Int) ≤ (p : Int) - 2 * S := by omega
  have h2 : ¬ (p : Int) - 2 * S < wrap32 (0 - S) := by unfold wrap32; omega
  unfold cwB
  rw [decide_eq_false h1, decide_eq_false h2]
  rfl
set_option maxRecDepth 100000 in
set_option maxHeartbeats 400000 in
theorem walkWordParts (a0 : Int) (w0 : (Lit.int .i32 a0).wf = true) (a1 : Int) (w1 : (Lit.int .u8 a1).wf = true) (w : World) (ht : Tab w) :
    Calls Tryd.prog 11 #[.int .i32 a0, .int .u8 a1] w fun e w' => e = .returned (.bool true) ∧ Below w.heap.size w w' := by
  have ha := isW_of_wf w0
  have h2 : 0 ≤ a1 ∧ a1 ≤ 255 := by
    simp only [Lit.wf, IntKind.min, IntKind.max, IntKind.signed, IntKind.bits, Bool.and_eq_true] at w1
    simp at w1
    omega
  obtain ⟨h20, h21⟩ := h2
  clear w0 w1
  have W := Lib.hid (works_any w ht)
  clear ht
  obtain ⟨n, hn, hn30⟩ : ∃ n : Nat, a1 % 31 = (n : Int) ∧ n ≤ 30 := ⟨(a1 % 31).toNat, by omega, by omega⟩
  have hsh := wrap_pow n hn30
  have hS0 : 1 ≤ 2 ^ n := Nat.one_le_two_pow
  have hS1 : 2 ^ n ≤ 1073741824 := by
    have h2 : 2 ^ n ≤ 2 ^ 30 := Nat.pow_le_pow_right (by decide) hn30
    have h3 : (2 : Nat) ^ 30 = 1073741824 := by decide
    omega
  have hand := u32_mask (uns a0) n (uns_lt a0) (by omega)
  have hp : uns a0 % 2 ^ (n + 1) < 2 ^ (n + 1) := Nat.mod_lt _ (by omega)
  have hbit := i32_bit (uns a0 % 2 ^ (n + 1)) n hn30 hp
  have h4 : 2 ^ (n + 1) = 2 * 2 ^ n := by rw [Nat.pow_succ, Nat.mul_comm]
  rw [h4] at hand hp hbit
  rw [uns_cast] at hand
  generalize 2 ^ n = S at *
  generalize uns a0 % (2 * S) = p at *
  have hand' : bits .and .u32 (a0 % 4294967296) (2 * (S : Int) - 1) = (p : Int) := by rw [← hand]; push_cast; rfl
  have hWp : isW (p : Int) := ⟨by omega, by omega⟩
  have hWS : isW (S : Int) := ⟨by omega, by omega⟩
  clear hand h4
  have q1 : (S : Int) % 4294967296 = S := by omega
  have q2 : (2 * (S : Int) - 1) % 4294967296 = 2 * (S : Int) - 1 := by omega
  have q3 : wrap32 (p : Int) = p := wrap32_in hWp
  clear ha
  by_cases hlt : p < S
  · have X := Lib.hid fun W => at_i (Xword_any (p : Int) (S : Int) hWp hWS W) (xw_lo S p hS1 hlt)
    have C := Lib.hid fun W => at_ib (Cword_any (p : Int) (S : Int) hWS W) rfl (cw_lo S p hS0 hS1 hlt)
    have D := C
    rw [if_neg (Nat.not_le.2 hlt)] at hbit
    have B : Value.int .i32 (bits .and .i32 (p : Int) (S : Int)) = Value.int .i32 0 := by rw [hbit]
    have A : Value.int .u32 (bits .and .u32 (a0 % 4294967296) (2 * (S : Int) - 1)) = Value.int .u32 (p : Int) := by rw [hand']
    clear hWp hWS hbit hand'
    go_enter Tryd.func11, Tryd.ntmps11
    go_wp2_with fail
    refine (X.out _).mono ?_
    rintro e w' ⟨rfl, rfl⟩
    go_wp2_with fail
    refine (C.out _).mono ?_
    rintro e w' ⟨rfl, rfl⟩
    go_wp2_with fail
    refine (D.out _).mono ?_
    rintro e w' ⟨rfl, rfl⟩
    go_wp2_with fail
    refine W.out.mono ?_
    rintro e w1 ⟨rfl, hb1⟩
    go_wp2
    go_ret
    exact ⟨rfl, hb1⟩
  · have X := Lib.hid fun W => at_i (Xword_any (p : Int) (S : Int) hWp hWS W) (xw_hi S p hS1 hlt hp)
    have C := Lib.hid fun W => at_ib (Cword_any ((p : Int) - 2 * S) (S : Int) hWS W) rfl (cw_neg S p hS0 hS1 hlt hp)
    have D := Lib.hid fun W => at_ib (Cword_any (p : Int) (S : Int) hWS W) rfl (cw_hi S p hlt)
    rw [if_pos (Nat.not_lt.1 hlt)] at hbit
    have B : Value.int .i32 (bits .and .i32 (p : Int) (S : Int)) = Value.int .i32 (S : Int) := by rw [hbit]
    have hs0 : ((S : Int) != 0) = true := by
      have hne : (S : Int) ≠ 0 := Int.ne_of_gt (Int.natCast_pos.2 hS0)
      simpa using hne
    have hap : ((p : Int) - ((p : Int) - 2 * (S : Int))) % (2 * (S : Int)) = 0 := by rw [Int.sub_sub_self, Int.emod_self]
    have A : Value.int .u32 (bits .and .u32 (a0 % 4294967296) (2 * (S : Int) - 1)) = Value.int .u32 (p : Int) := by rw [hand']
    clear hWp hWS hbit hand'
    go_enter Tryd.func11, Tryd.ntmps11
    go_wp2_with fail
    refine (X.out _).mono ?_
    rintro e w' ⟨rfl, rfl⟩
    go_wp2_with fail
    refine (C.out _).mono ?_
    rintro e w' ⟨rfl, rfl⟩
    go_wp2_with fail
    refine (D.out _).mono ?_
    rintro e w' ⟨rfl, rfl⟩
    go_wp2_with fail
    refine W.out.mono ?_
    rintro e w1 ⟨rfl, hb1⟩
    go_wp2
    go_ret
    exact ⟨rfl, hb1⟩
end Go.Proofs.YtjeicjlaoakgfaaDoor
