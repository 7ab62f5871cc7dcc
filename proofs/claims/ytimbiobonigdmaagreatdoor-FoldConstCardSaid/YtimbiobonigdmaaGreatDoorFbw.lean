/- The reference's operators on bits, one bit after the other, are those of the machine. Plain Lean. -/
import Derived.Test.YtimbiobonigdmaaGreatDoorFla
set_option linter.unusedVariables false
set_option linter.unusedSimpArgs false
set_option linter.unusedVariables false
set_option linter.unusedSimpArgs false
namespace Go.Proofs.YtimbiobonigdmaaGreatDoor.L14
open Go L8 L10

def bvO (o : Nat) (x y : BitVec 32) : BitVec 32 := if o = 9 then x &&& y else if o = 10 then x ||| y else if o = 11 then x ^^^ y else ~~~x
def bitO (o : Nat) (p q : Int) : Int := if o = 9 then p * q else if o = 10 then p + q - p * q else if o = 11 then (p + q) % 2 else 1 - p
def bsum (o : Nat) (X Y : Int) : Nat → Int
  | 0 => 0
  | i + 1 => bsum o X Y i + bitO o (X / 2 ^ i % 2) (Y / 2 ^ i % 2) * 2 ^ i
def sumN (f : Nat) : Nat → Nat
  | 0 => 0
  | i + 1 => sumN f i + (f / 2 ^ i % 2) * 2 ^ i
theorem sumN_mod (f : Nat) : ∀ n, sumN f n = f % 2 ^ n
  | 0 => by rw [sumN, Nat.pow_zero, Nat.mod_one]
  | n + 1 => by rw [sumN, sumN_mod f n, Nat.mod_pow_succ, Nat.mul_comm]
theorem bit_nat (x : BitVec 32) (i : Nat) : (x.toNat : Int) / 2 ^ i % 2 = ((x.getLsbD i).toNat : Int) := by
  have h : x.toNat / 2 ^ i % 2 = (x.getLsbD i).toNat := by
    rw [← Nat.toNat_testBit]
    rfl
  rw [← h]
  norm_cast
theorem bit_is (o : Nat) (x y : BitVec 32) (i : Nat) (hi : i < 32) : bitO o ((x.getLsbD i).toNat : Int) ((y.getLsbD i).toNat : Int) = (((bvO o x y).getLsbD i).toNat : Int) := by
  unfold bitO bvO
  by_cases h9 : o = 9
  · rw [if_pos h9, if_pos h9, BitVec.getLsbD_and]
    cases x.getLsbD i <;> cases y.getLsbD i <;> rfl
  rw [if_neg h9, if_neg h9]
  by_cases h10 : o = 10
  · rw [if_pos h10, if_pos h10, BitVec.getLsbD_or]
    cases x.getLsbD i <;> cases y.getLsbD i <;> rfl
  rw [if_neg h10, if_neg h10]
  by_cases h11 : o = 11
  · rw [if_pos h11, if_pos h11, BitVec.getLsbD_xor]
    cases x.getLsbD i <;> cases y.getLsbD i <;> rfl
  rw [if_neg h11, if_neg h11, BitVec.getLsbD_not, decide_eq_true hi, Bool.true_and]
  cases x.getLsbD i <;> rfl
theorem bsum_is (o : Nat) (x y : BitVec 32) : ∀ n, n ≤ 32 → bsum o (x.toNat : Int) (y.toNat : Int) n = (sumN (bvO o x y).toNat n : Int)
  | 0, _ => rfl
  | n + 1, h => by
    rw [bsum, sumN, bsum_is o x y n (by omega), bit_nat, bit_nat, bit_is o x y n (by omega), ← bit_nat]
    norm_cast
theorem bv_nat (a : Int) : ((BitVec.ofInt 32 a).toNat : Int) = a % 4294967296 := by
  rw [BitVec.toNat_ofInt]
  have : (0 : Int) ≤ a % 4294967296 := Int.emod_nonneg _ (by decide)
  show ((a % 4294967296).toNat : Int) = _
  omega
theorem bsum_rng (o : Nat) (a b : Int) (n : Nat) (h : n ≤ 32) : 0 ≤ bsum o (a % 4294967296) (b % 4294967296) n ∧ bsum o (a % 4294967296) (b % 4294967296) n ≤ 4294967295 := by
  rw [← bv_nat a, ← bv_nat b, bsum_is o _ _ n h, sumN_mod]
  have h1 : (bvO o (BitVec.ofInt 32 a) (BitVec.ofInt 32 b)).toNat % 2 ^ n ≤ (bvO o (BitVec.ofInt 32 a) (BitVec.ofInt 32 b)).toNat := Nat.mod_le _ _
  have h2 := (bvO o (BitVec.ofInt 32 a) (BitVec.ofInt 32 b)).isLt
  omega
/-- What the reference reckons is what the operator gives. -/
theorem bsum_ap (o : Nat) (a b : Int) (ho : o = 9 ∨ o = 10 ∨ o = 11 ∨ o = 25) : apO o a b = some (IntKind.i32.wrap (bsum o (a % 4294967296) (b % 4294967296) 32)) := by
  rw [← bv_nat a, ← bv_nat b, bsum_is o _ _ 32 (Nat.le_refl _), sumN_mod, Nat.mod_eq_of_lt (bvO o _ _).isLt, wrap_toInt]
  rcases ho with rfl | rfl | rfl | rfl
  · show some (bits .and .i32 a b) = _
    rw [and_bv]; rfl
  · show some (bits .or .i32 a b) = _
    rw [or_bv]; rfl
  · show some (bits .xor .i32 a b) = _
    rw [xor_bv]; rfl
  · show some (bits .xor .i32 (-1) a) = _
    rw [xor_bv, ones_xor]; rfl
end Go.Proofs.YtimbiobonigdmaaGreatDoor.L14
