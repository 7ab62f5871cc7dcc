/- What FoldLaws says, of the pure operators. Plain Lean. -/
import Derived.Test.YtblckajejohlbaaDoorFob
import Derived.Test.YtblckajejohlbaaDoorTre
set_option linter.unusedVariables false
set_option linter.unusedSimpArgs false
set_option linter.unusedVariables false
set_option linter.unusedSimpArgs false
namespace Go.Proofs.YtblckajejohlbaaDoor.L14
open Go L8 L10

theorem wrap_toInt (x : BitVec 32) : IntKind.i32.wrap (x.toNat : Int) = x.toInt := by
  rw [IntKind.wrap_i32, BitVec.toInt_eq_toNat_cond]
  have := x.isLt
  split <;> omega
theorem and_bv (a b : Int) : bits .and .i32 a b = (BitVec.ofInt 32 a &&& BitVec.ofInt 32 b).toInt := wrap_toInt _
theorem or_bv (a b : Int) : bits .or .i32 a b = (BitVec.ofInt 32 a ||| BitVec.ofInt 32 b).toInt := wrap_toInt _
theorem xor_bv (a b : Int) : bits .xor .i32 a b = (BitVec.ofInt 32 a ^^^ BitVec.ofInt 32 b).toInt := wrap_toInt _
theorem ones_xor (x : BitVec 32) : BitVec.ofInt 32 (-1) ^^^ x = ~~~x := by
  have : BitVec.ofInt 32 (-1) = BitVec.allOnes 32 := by decide
  rw [this, BitVec.allOnes_xor]
theorem morgan_not (a b : Int) : bits .xor .i32 (-1) (bits .and .i32 a b) = bits .or .i32 (bits .xor .i32 (-1) a) (bits .xor .i32 (-1) b) := by
  simp only [and_bv, or_bv, xor_bv, BitVec.ofInt_toInt, ones_xor]
  rw [BitVec.not_and]
theorem morgan_xor (a b : Int) : bits .xor .i32 a b = bits .and .i32 (bits .or .i32 a b) (bits .xor .i32 (-1) (bits .and .i32 a b)) := by
  simp only [and_bv, or_bv, xor_bv, BitVec.ofInt_toInt, ones_xor]
  congr 1
  ext i hi
  simp
  cases (BitVec.ofInt 32 a)[i] <;> cases (BitVec.ofInt 32 b)[i] <;> rfl
/-- A checked operator beside the one that wraps. -/
theorem checked_wrap {x : Int} : (∀ u, fitO x = some u → u = w32 x) := by
  intro u h
  unfold fitO at h
  split at h
  · rename_i hx; injection h with h; subst h; unfold w32; omega
  · cases h
theorem div_rem {a b : Int} (hb : b ≠ 0) : b * (a.tdiv b) + a.tmod b = a := Int.mul_tdiv_add_tmod a b
end Go.Proofs.YtblckajejohlbaaDoor.L14
