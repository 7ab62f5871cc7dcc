/- Instructions: validity, equality, the byte of an instruction, the reference's reduction of a number. -/
import Derived.Test.YtiblicpaeogihaaBytes
import Derived.Deep.RegionHeld3
import Derived.Deep.DrawnRows
namespace Go.Proofs.Ytiblicpaeogihaa
open Go Go.RowKit

theorem vl_no1 {f : Nat} (h : ¬ f < 16) : valid f = false := by unfold valid; simp; omega
theorem vl_no2 : valid 2 = false := by decide
theorem vl_no6 : valid 6 = false := by decide
theorem vl_yes {f : Nat} (h : f < 16) (h2 : ¬ f = 2) (h6 : ¬ f = 6) : valid f = true := by unfold valid; simp; omega
theorem isValid_any (f : Nat) (v : Int) (w : World) : Calls Try.prog 28 #[.agg #[.int .u8 (f : Int), .int .i32 v]] w fun e w' => e = .returned (.bool (valid f)) ∧ w.grownBy w' none := by
  by_cases h1 : f < 16
  · by_cases h2 : f = 2
    · subst h2
      rw [vl_no2]
      go_enter Try.func28, Try.ntmps28
      go_wp2
      go_ret
      exact ⟨rfl, World.grownBy_alloc w _ none⟩
    · by_cases h6 : f = 6
      · subst h6
        rw [vl_no6]
        go_enter Try.func28, Try.ntmps28
        go_wp2
        go_ret
        exact ⟨rfl, World.grownBy_alloc w _ none⟩
      · rw [vl_yes h1 h2 h6]
        have q1 : (f : Int) ≤ 15 := by omega
        have q2 : ¬ (f : Int) = 2 := by omega
        have q6 : ¬ (f : Int) = 6 := by omega
        clear h1 h2 h6
        go_enter Try.func28, Try.ntmps28
        go_wp2
        go_ret
        exact ⟨ret_b (by simp [q2, q6]), World.grownBy_alloc w _ none⟩
  · rw [vl_no1 h1]
    have q1 : ¬ (f : Int) ≤ 15 := by omega
    clear h1
    go_enter Try.func28, Try.ntmps28
    go_wp2
    go_ret
    exact ⟨rfl, World.grownBy_alloc w _ none⟩
theorem Valid_any (f : Nat) (v : Int) (w : World) : Calls Try.prog 30 #[.agg #[.int .u8 (f : Int), .int .i32 v]] w fun e w' => e = .returned (.bool (valid f)) ∧ w.grownBy w' none := by
  by_cases h1 : f < 16
  · by_cases h2 : f = 2
    · subst h2
      rw [vl_no2]
      go_enter Try.func30, Try.ntmps30
      go_wp2
      go_ret
      exact ⟨rfl, World.grownBy_alloc w _ none⟩
    · by_cases h6 : f = 6
      · subst h6
        rw [vl_no6]
        go_enter Try.func30, Try.ntmps30
        go_wp2
        go_ret
        exact ⟨rfl, World.grownBy_alloc w _ none⟩
      · rw [vl_yes h1 h2 h6]
        have q1 : (f : Int) < 16 := by omega
        have q2 : ¬ (f : Int) = 2 := by omega
        have q6 : ¬ (f : Int) = 6 := by omega
        clear h1 h2 h6
        go_enter Try.func30, Try.ntmps30
        go_wp2
        go_ret
        exact ⟨ret_b (by simp [q2, q6]), World.grownBy_alloc w _ none⟩
  · rw [vl_no1 h1]
    have q1 : ¬ (f : Int) < 16 := by omega
    clear h1
    go_enter Try.func30, Try.ntmps30
    go_wp2
    go_ret
    exact ⟨rfl, World.grownBy_alloc w _ none⟩
/-! The byte of an instruction. -/
theorem i32_and15 (v : Int) : bits .and .i32 v 15 = v % 16 := by
  show IntKind.i32.wrap ((BitVec.ofInt 32 v &&& BitVec.ofInt 32 15).toNat : Int) = _
  rw [BitVec.toNat_and, show (BitVec.ofInt 32 15).toNat = 2 ^ 4 - 1 by decide, Nat.and_two_pow_sub_one_eq_mod, BitVec.toNat_ofInt, IntKind.wrap_i32]
  omega
theorem u8_and15 (n : Nat) : bits .and .u8 (n : Int) 15 = ((n % 16 : Nat) : Int) := by
  show IntKind.u8.wrap ((BitVec.ofInt 8 (n : Int) &&& BitVec.ofInt 8 15).toNat : Int) = _
  rw [BitVec.toNat_and, show (BitVec.ofInt 8 15).toNat = 2 ^ 4 - 1 by decide, Nat.and_two_pow_sub_one_eq_mod, BitVec.toNat_ofInt]
  simp only [IntKind.wrap, IntKind.bits, IntKind.signed]
  simp
  omega
theorem or_add (x y k : Nat) (h : x < 2 ^ k) : y * 2 ^ k ||| x = y * 2 ^ k + x := by
  have := Nat.shiftLeft_add_eq_or_of_lt h y
  rw [Nat.shiftLeft_eq] at this
  omega
theorem u8_or (f d : Nat) (hf : f < 16) (hd : d < 16) : bits .or .u8 ((f : Int) * 16) (d : Int) = ((16 * f + d : Nat) : Int) := by
  show IntKind.u8.wrap ((BitVec.ofInt 8 ((f : Int) * 16) ||| BitVec.ofInt 8 (d : Int)).toNat : Int) = _
  have e1 : (BitVec.ofInt 8 ((f : Int) * 16)).toNat = f * 2 ^ 4 := by rw [BitVec.toNat_ofInt]; omega
  have e2 : (BitVec.ofInt 8 (d : Int)).toNat = d := by rw [BitVec.toNat_ofInt]; omega
  rw [BitVec.toNat_or, e1, e2, or_add d f 4 (by omega)]
  simp only [IntKind.wrap, IntKind.bits, IntKind.signed]
  simp
  omega
theorem instrByte_any (f : Nat) (hf : f < 16) (v : Int) (w : World) : Calls Try.prog 32 #[.int .u8 (f : Int), .int .i32 v] w fun e w' => e = .returned (.int .u8 ((16 * f + (v % 16).toNat : Nat) : Int)) ∧ w = w' := by
  have E := Lib.hid (u8_or f (v % 16).toNat hf (by omega))
  have q : (f : Int) < 16 := by omega
  have h1 := i32_and15 v
  clear hf
  go_enter Try.func32, Try.ntmps32
  go_wp2
  go_ret
  refine ⟨ret_i ?_, rfl⟩
  rw [← E.out]
  congr 1
  omega
theorem i32_not (v : Int) (hv : isW v) : bits .xor .i32 (-1) v = -1 - v := by
  show IntKind.i32.wrap ((BitVec.ofInt 32 (-1) ^^^ BitVec.ofInt 32 v).toNat : Int) = _
  have h1 : BitVec.ofInt 32 (-1) = BitVec.allOnes 32 := by decide
  have h3 : ((BitVec.ofInt 32 v).toNat : Int) = v % 4294967296 := by rw [BitVec.toNat_ofInt]; omega
  rw [h1, BitVec.allOnes_xor, BitVec.toNat_not, IntKind.wrap_i32]
  have := (BitVec.ofInt 32 v).isLt
  unfold isW at hv
  omega
/-! Equality. -/
theorem eq_iv (a b c d : Int) (w : World) : (Op.equalIn 10000 23 (.agg #[.int .u8 a, .int .i32 b]) (.agg #[.int .u8 c, .int .i32 d])).run Try.prog w = .ok (a == c && b == d) w := by
  have u3 := Try.underlying5
  have a3 := Try.isAgg5
  have z3 := Try.sizeOf5
  have u4 := Try.underlying21
  have a4 := Try.isAgg21
  have z4 := Try.sizeOf21
  have hS : Try.prog.underlying 23 = some (.struct (Try.prog.fieldsOf 23)) := by kernel_rfl
  have hp : Try.prog.stoodInHeld 23 = false := by kernel_rfl
  rw [show (10000 : Nat) = 9999 + 1 from rfl, run_equalIn_agg w 9999 23 _ _ hS hp]
  simp only [Program.fieldsOf, Try.underlying23]
  go_simp
  by_cases h1 : a = c <;> by_cases h2 : b = d <;> simp [h1, h2]
theorem guard_iv : Try.prog.eqGuardType Try.prog.depth 23 = false := by kernel_rfl
theorem neq_iv (a b c d : Int) (w : World) : (binOp .neq 23 (.agg #[.int .u8 a, .int .i32 b]) (.agg #[.int .u8 c, .int .i32 d])).run Try.prog w = .ok (.bool (!(a == c && b == d))) w := by
  rw [run_neq_struct, eq_iv]; rfl
theorem eql_iv (a b c d : Int) (w : World) : (binOp .eql 23 (.agg #[.int .u8 a, .int .i32 b]) (.agg #[.int .u8 c, .int .i32 d])).run Try.prog w = .ok (.bool (a == c && b == d)) w := by
  rw [run_eql_struct, eq_iv]; rfl
/-! A number reduced to a word. -/
theorem emod_of_tmod_neg {t : Int} (h : t.tmod 4294967296 < 0) : t.tmod 4294967296 + 4294967296 = t % 4294967296 := by
  have h1 : t = 4294967296 * t.tdiv 4294967296 + t.tmod 4294967296 := (Int.mul_tdiv_add_tmod t 4294967296).symm
  have h2 := Int.lt_tmod_of_pos t (show (0 : Int) < 4294967296 by omega)
  generalize t.tmod 4294967296 = r at *
  generalize t.tdiv 4294967296 = q at *
  omega
theorem emod_of_tmod_nonneg {t : Int} (h : ¬ t.tmod 4294967296 < 0) : t.tmod 4294967296 = t % 4294967296 := by
  have h1 : t = 4294967296 * t.tdiv 4294967296 + t.tmod 4294967296 := (Int.mul_tdiv_add_tmod t 4294967296).symm
  have h2 := Int.tmod_lt_of_pos t (show (0 : Int) < 4294967296 by omega)
  generalize t.tmod 4294967296 = r at *
  generalize t.tdiv 4294967296 = q at *
  omega
theorem tmod_rng (t : Int) : -4294967296 < t.tmod 4294967296 ∧ t.tmod 4294967296 < 4294967296 :=
  ⟨Int.lt_tmod_of_pos t (by omega), Int.tmod_lt_of_pos t (by omega)⟩
/-- A number far from the ends of an int64. -/
def isD (t : Int) : Prop := -4611686018427387904 ≤ t ∧ t ≤ 4611686018427387904
theorem Wrap_neg (t : Int) (ht : isD t) (_hs : t < 0) (w : World) : Calls Try.prog 33 #[.int .i64 t] w fun e w' => e = .returned (.int .i32 (wrap32 t)) ∧ w = w' := by
  obtain ⟨t0, t1⟩ := ht
  obtain ⟨r0, r1⟩ := tmod_rng t
  have hw : wrap32 (wrap32 (t % 4294967296)) = wrap32 t := by unfold wrap32; omega
  have hw' : wrap32 (wrap32 (t % 4294967296) - 4294967296) = wrap32 t := by unfold wrap32; omega
  by_cases hn : t.tmod 4294967296 < 0
  · have he := emod_of_tmod_neg hn
    by_cases hh : 2147483648 ≤ t.tmod 4294967296 + 4294967296
    all_goals
      have He := Lib.hid he
      have Hw := Lib.hid hw
      clear he hw hw'
      go_enter Try.func33, Try.ntmps33
      go_wp2
      go_ret
      exact ⟨ret_i (by rw [← Hw.out, ← He.out]; unfold wrap32; omega), rfl⟩
  · have he := emod_of_tmod_nonneg hn
    by_cases hh : 2147483648 ≤ t.tmod 4294967296
    all_goals
      have He := Lib.hid he
      have Hw := Lib.hid hw
      clear he hw hw'
      go_enter Try.func33, Try.ntmps33
      go_wp2
      go_ret
      exact ⟨ret_i (by rw [← Hw.out, ← He.out]; unfold wrap32; omega), rfl⟩
theorem Wrap_any (t : Int) (ht : isD t) (w : World) : Calls Try.prog 33 #[.int .i64 t] w fun e w' => e = .returned (.int .i32 (wrap32 t)) ∧ w = w' := by
  rcases Int.lt_or_le t 0 with hs | hs
  · exact Wrap_neg t ht hs w
  · obtain ⟨t0, t1⟩ := ht
    by_cases hh : 2147483648 ≤ t % 4294967296
    all_goals
      go_enter Try.func33, Try.ntmps33
      go_wp2
      go_ret
      exact ⟨ret_i (by unfold wrap32; omega), rfl⟩
end Go.Proofs.Ytiblicpaeogihaa
