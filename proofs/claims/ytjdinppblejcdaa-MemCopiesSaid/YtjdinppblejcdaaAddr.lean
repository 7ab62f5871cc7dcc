/- Package mem: addresses, sizes, and the bytes from an address on. -/
import Derived.Test.YtjdinppblejcdaaMem
import Derived.LaidEqlPtr
namespace Go.Proofs.Ytjdinppblejcdaa
open Go Go.RowKit

theorem mem_info : ∃ j, Try.prog.info? 46 = some j := Option.isSome_iff_exists.1 (by kernel_rfl)
theorem self_eq (w : World) (a : Addr) : (binOp .eql 23 (.pointer (some a)) (.pointer (some a))).run Try.prog w = .ok (.bool true) w := by
  obtain ⟨j, hj⟩ := mem_info
  exact run_eql_ptr_same w a Try.underlying23 hj
theorem nil_eq (w : World) (a : Addr) : (binOp .eql 23 (.pointer none) (.pointer (some a))).run Try.prog w = .ok (.bool false) w := by
  have h : ∀ d : Nat, (Op.equalIn (d + 1) 23 (.pointer none) (.pointer (some a))).run Try.prog w = .ok false w := fun d => by
    simp [Op.equalIn, run_underlying Try.underlying23]
  simp only [binOp]
  simp [Op.equal, Op.maxDepth, h 9999]
theorem made_any {p g : Nat} {xs : List Nat} {w : World} (M : MemAt w p g xs) : Calls Try.prog 44 #[.pointer (some ⟨p, 0, none⟩)] w fun e w' => e = .returned (.bool true) ∧ w = w' := by
  have h1 := M.c1
  go_enter Try.func44, Try.ntmps44
  have se := self_eq w ⟨p, 0, none⟩
  go_wp2
  go_ret
  exact ⟨rfl, rfl⟩
theorem made_nil (w : World) : Calls Try.prog 44 #[.pointer none] w fun e w' => e = .returned (.bool false) ∧ w = w' := by
  go_enter Try.func44, Try.ntmps44
  go_wp2
  go_ret
  exact ⟨rfl, rfl⟩
theorem made_zero {p : Nat} {w : World} (h1 : w.cell? ⟨p, 1, none⟩ = some (.pointer none)) : Calls Try.prog 44 #[.pointer (some ⟨p, 0, none⟩)] w fun e w' => e = .returned (.bool false) ∧ w = w' := by
  have se := nil_eq w ⟨p, 0, none⟩
  go_enter Try.func44, Try.ntmps44
  go_wp2
  go_ret
  exact ⟨rfl, rfl⟩
theorem isSize_any (n : Int) (w : World) : Calls Try.prog 34 #[.int .i64 n] w fun e w' => e = .returned (.bool (decide (1024 ≤ n ∧ n ≤ 65536 ∧ n % 4 = 0))) ∧ w = w' := by
  by_cases h1 : 1024 ≤ n
  · by_cases h2 : n ≤ 65536
    · go_enter Try.func34, Try.ntmps34
      go_wp2
      go_ret
      refine ⟨ret_b ?_, rfl⟩
      by_cases h3 : n % 4 = 0 <;> simp [h1, h2, h3]
    · go_enter Try.func34, Try.ntmps34
      go_wp2
      go_ret
      exact ⟨ret_b (by simp; omega), rfl⟩
  · go_enter Try.func34, Try.ntmps34
    go_wp2
    go_ret
    exact ⟨ret_b (by simp; omega), rfl⟩
theorem and_three (c : Int) : bits .and .i32 c 3 = c % 4 := by
  show IntKind.i32.wrap ((BitVec.ofInt 32 c &&& BitVec.ofInt 32 3).toNat : Int) = _
  rw [BitVec.toNat_and, show (BitVec.ofInt 32 3).toNat = 2 ^ 2 - 1 by decide, Nat.and_two_pow_sub_one_eq_mod, BitVec.toNat_ofInt, IntKind.wrap_i32]
  omega
theorem Wcnt_any (a : Int) (w : World) : Calls Try.prog 22 #[.int .i32 a] w fun e w' => e = .returned (.tuple #[.int .i32 (a / 4), .int .i32 (a % 4)]) ∧ w = w' := by
  go_enter Try.func22, Try.ntmps22
  go_wp2
  go_ret2
  refine ⟨ret_ii ?_ ?_, rfl⟩
  · rfl
  · exact and_three a
theorem Bsub_any (a b : Int) (w : World) : Calls Try.prog 24 #[.int .i32 a, .int .i32 b] w fun e w' => e = .returned (.int .i32 (wrap32 (a + b))) ∧ w = w' := by
  go_enter Try.func24, Try.ntmps24
  go_wp2
  go_ret
  exact ⟨rfl, rfl⟩
theorem Bcnt_any (a : Int) (w : World) : Calls Try.prog 28 #[.int .i32 a] w fun e w' => e = .returned (.int .i32 (wrap32 (4 * a))) ∧ w = w' := by
  go_enter Try.func28, Try.ntmps28
  go_wp2
  go_ret
  exact ⟨rfl, rfl⟩
theorem Wsub_any (a b : Int) (w : World) : Calls Try.prog 26 #[.int .i32 a, .int .i32 b] w fun e w' => e = .returned (.int .i32 (wrap32 (a + wrap32 (4 * b)))) ∧ w = w' := by
  go_enter Try.func26, Try.ntmps26
  go_wp2_with (first
    | (go_at_call 28; (with_reducible refine (Bcnt_any _ _).mono ?_); rintro e w' ⟨rfl, rfl⟩)
    | (go_at_call 24; (with_reducible refine (Bsub_any _ _ _).mono ?_); rintro e w' ⟨rfl, rfl⟩))
  go_ret
  exact ⟨rfl, rfl⟩
theorem block_zero {p g : Nat} {xs : List Nat} {w : World} (M : MemAt w p g xs) (a : Int) : Calls Try.prog 49 #[.pointer (some ⟨p, 0, none⟩), .int .i32 a, .int .u64 0] w fun e w' => e = .returned (.tuple #[.slice none 0 0, .int .i64 0]) ∧ w = w' := by
  have C := Lib.hid (made_any M)
  clear M
  go_enter Try.func49, Try.ntmps49
  go_wp2_with (go_at_call 44; (with_reducible refine C.out.mono ?_); rintro e w' ⟨rfl, rfl⟩)
  go_ret2
  exact ⟨rfl, rfl⟩
theorem start_eq {a : Int} (ha : isW a) : wrap32 (a + 2147483648) % 4294967296 = (ix a : Int) := by
  have := ix_cast ha
  unfold isW at ha
  unfold wrap32
  omega
theorem block_out {p g : Nat} {xs : List Nat} {w : World} (M : MemAt w p g xs) {a : Int} (ha : isW a) {n : Nat} (h0 : n ≠ 0) (hn : n < 9223372036854775808) (ho : ¬ ix a + n ≤ xs.length) :
    Calls Try.prog 49 #[.pointer (some ⟨p, 0, none⟩), .int .i32 a, .int .u64 (n : Int)] w fun e w' => e = .returned (.tuple #[.slice none 0 0, .int .i64 4]) ∧ w = w' := by
  have C := Lib.hid (made_any M)
  have c0 := M.c0
  have b1 := M.big
  clear M
  have E := start_eq ha
  have e1 := ix_lt ha
  clear ha
  generalize xs.length = L at *
  generalize ix a = i at *
  have h0' : ¬ ((n : Int) = 0) := by omega
  have h1 : (L : Int) < (i : Int) + n := by omega
  go_enter Try.func49, Try.ntmps49
  go_wp2_with (go_at_call 44; (with_reducible refine C.out.mono ?_); rintro e w' ⟨rfl, rfl⟩)
  go_ret2
  exact ⟨rfl, rfl⟩
theorem block_in {p g : Nat} {xs : List Nat} {w : World} (M : MemAt w p g xs) {a : Int} (ha : isW a) {n : Nat} (h0 : n ≠ 0) (ho : ix a + n ≤ xs.length) :
    Calls Try.prog 49 #[.pointer (some ⟨p, 0, none⟩), .int .i32 a, .int .u64 (n : Int)] w fun e w' => e = .returned (.tuple #[.slice (some ⟨g, ix a, none⟩) n n, .int .i64 0]) ∧ w = w' := by
  have C := Lib.hid (made_any M)
  have c0 := M.c0
  have b1 := M.big
  clear M
  have E := start_eq ha
  have e1 := ix_lt ha
  clear ha
  generalize xs.length = L at *
  generalize ix a = i at *
  have h0' : ¬ ((n : Int) = 0) := by omega
  have h1 : ¬ ((L : Int) < (i : Int) + n) := by omega
  have h2 : ¬ (i = L) := by omega
  have h3 : ((i : Int) + n).toNat - i = n := by omega
  go_enter Try.func49, Try.ntmps49
  go_wp2_with (go_at_call 44; (with_reducible refine C.out.mono ?_); rintro e w' ⟨rfl, rfl⟩)
  go_ret2
  exact ⟨rfl, rfl⟩
theorem block_none {q : Option Addr} {w : World} (C : Calls Try.prog 44 #[.pointer q] w fun e w' => e = .returned (.bool false) ∧ w = w') (a n : Int) :
    Calls Try.prog 49 #[.pointer q, .int .i32 a, .int .u64 n] w fun e w' => e = .returned (.tuple #[.slice none 0 0, .int .i64 1]) ∧ w = w' := by
  have C := Lib.hid C
  go_enter Try.func49, Try.ntmps49
  go_wp2_with (go_at_call 44; (with_reducible refine C.out.mono ?_); rintro e w' ⟨rfl, rfl⟩)
  go_ret2
  exact ⟨rfl, rfl⟩
end Go.Proofs.Ytjdinppblejcdaa
