/- Contracts of package long: what each function returns, for all words. -/
import Derived.Test.YtikfbooihacjfaaDw
import Derived.WalkSpells
import Derived.WalkLawsBesides
import Derived.Handy
import Derived.Laws.Shifts
import Derived.Deep.QuietTactic
import Derived.BigQuiet
import Derived.Deep.RegionWith
import Derived.Laws.StructEq
namespace Go.Proofs.Ytikfbooihacjfaa
open Go Go.RowKit

theorem and_one (c : Int) : bits .and .i32 c 1 = c % 2 := by
  show IntKind.i32.wrap ((BitVec.ofInt 32 c &&& BitVec.ofInt 32 1).toNat : Int) = _
  rw [BitVec.toNat_and, show (BitVec.ofInt 32 1).toNat = 2 ^ 1 - 1 by decide, Nat.and_two_pow_sub_one_eq_mod, BitVec.toNat_ofInt, IntKind.wrap_i32]
  omega
theorem carryBit_any (c : Int) (w : World) : Calls Try.prog 36 #[.int .i32 c] w fun e w' => e = .returned (.int .i32 (c % 2)) ∧ w = w' := by
  go_enter Try.func36, Try.ntmps36
  go_wp2
  go_ret
  exact ⟨ret_i (and_one c), rfl⟩
theorem reduce_any (x : Int) (w : World) : Calls Try.prog 35 #[.int .i64 x] w fun e w' => e = .returned (.tuple #[.int .i32 (wrap32 x), .bool (overB x)]) ∧ w = w' := by
  go_enter Try.func35, Try.ntmps35
  go_wp2
  go_ret2
  exact ⟨ret_ib rfl (wrap32_over x), rfl⟩
theorem unsigned_any (a : Int) (w : World) : Calls Try.prog 43 #[.int .i32 a] w fun e w' => e = .returned (.int .u64 (U a)) ∧ w = w' := by
  go_enter Try.func43, Try.ntmps43
  go_wp2
  go_ret
  exact ⟨ret_i (U_cast a).symm, rfl⟩
theorem Add_any (a b c : Int) (ha : isW a) (hb : isW b) (w : World) : Calls Try.prog 11 #[.int .i32 a, .int .i32 b, .int .i32 c] w fun e w' => e = .returned (.tuple #[.int .i32 (wrap32 (a + b + c % 2)), .bool (overB (a + b + c % 2))]) ∧ w = w' := by
  unfold isW at ha hb
  obtain ⟨a0, a1⟩ := ha
  obtain ⟨b0, b1⟩ := hb
  go_enter Try.func11, Try.ntmps11
  go_wp2_with (first | (go_at_call 35; refine (reduce_any _ _).mono ?_; rintro e w' ⟨rfl, rfl⟩) | (go_at_call 36; refine (carryBit_any _ _).mono ?_; rintro e w' ⟨rfl, rfl⟩))
  go_ret2
  exact ⟨rfl, rfl⟩
theorem Sub_any (a b c : Int) (ha : isW a) (hb : isW b) (w : World) : Calls Try.prog 13 #[.int .i32 a, .int .i32 b, .int .i32 c] w fun e w' => e = .returned (.tuple #[.int .i32 (wrap32 (a - b - c % 2)), .bool (overB (a - b - c % 2))]) ∧ w = w' := by
  unfold isW at ha hb
  obtain ⟨a0, a1⟩ := ha
  obtain ⟨b0, b1⟩ := hb
  go_enter Try.func13, Try.ntmps13
  go_wp2_with (first | (go_at_call 35; refine (reduce_any _ _).mono ?_; rintro e w' ⟨rfl, rfl⟩) | (go_at_call 36; refine (carryBit_any _ _).mono ?_; rintro e w' ⟨rfl, rfl⟩))
  go_ret2
  exact ⟨rfl, rfl⟩

/-! ### The double word as a struct -/
/-- The struct of a double word. -/
def h32 (d : Nat) : Int := ((d / 4294967296 : Nat) : Int)
def l32 (d : Nat) : Int := ((d % 4294967296 : Nat) : Int)
abbrev dv (d : Nat) : Value := .agg #[.int .u32 (h32 d), .int .u32 (l32 d)]
theorem h32_bd {d : Nat} (hd : d < 18446744073709551616) : 0 ≤ h32 d ∧ h32 d < 4294967296 := by unfold h32; omega
theorem l32_bd (d : Nat) : 0 ≤ l32 d ∧ l32 d < 4294967296 := by unfold l32; omega
theorem bcell {W w1 : World} (hb : Below W.heap.size W w1) : (∀ b o, b < W.heap.size → w1.cell? ⟨b, o, none⟩ = W.cell? ⟨b, o, none⟩) ∧ (∀ b o, b < W.heap.size → w1.frozen? ⟨b, o, none⟩ = W.frozen? ⟨b, o, none⟩) :=
  ⟨fun b o h => hb.cell (p := ⟨b, o, none⟩) h, fun b o h => hb.frozen (p := ⟨b, o, none⟩) h⟩
theorem join_any (a b : Int) (w : World) : Calls Try.prog 41 #[.int .i32 a, .int .i32 b] w fun e w' => e = .returned (dv (DW a b)) ∧ Below w.heap.size w w' := by
  have e1 : a % 4294967296 = h32 (DW a b) := by have := U_cast a; have := U_lt b; unfold h32 DW; omega
  have e2 : b % 4294967296 = l32 (DW a b) := by have := U_cast b; have := U_lt b; unfold l32 DW; omega
  have E1 := Lib.hid e1
  have E2 := Lib.hid e2
  clear e1 e2
  go_enter Try.func41, Try.ntmps41
  go_wp2
  refine bodyPost_ret (v := .agg #[.int .u32 (a % 4294967296), .int .u32 (b % 4294967296)]) (by simp [results, Try.results41, go_sem]) rfl ⟨?_, ?_⟩
  · rw [E1.out, E2.out]
  · exact (Below.refl _ _).alloc (Nat.le_refl _) _
theorem doubleOf_any (d : Nat) (hd : d < 18446744073709551616) (w : World) : Calls Try.prog 42 #[.int .u64 (d : Int)] w fun e w' => e = .returned (dv d) ∧ Below w.heap.size w w' := by
  have E1 := Lib.hid (show (d : Int) / 4294967296 = h32 d by unfold h32; omega)
  have E2 := Lib.hid (show (d : Int) % 4294967296 = l32 d by unfold l32; omega)
  go_enter Try.func42, Try.ntmps42
  go_wp2
  refine bodyPost_ret (v := .agg #[.int .u32 ((d : Int) / 4294967296), .int .u32 ((d : Int) % 4294967296)]) (by simp [results, Try.results42, go_sem]) rfl ⟨?_, ?_⟩
  · rw [E1.out, E2.out]
  · exact (Below.refl _ _).alloc (Nat.le_refl _) _
/-- The two words of a struct. -/
theorem words_any (d : Nat) (hd : d < 18446744073709551616) (w : World) : Calls Try.prog 40 #[dv d] w fun e w' => e = .returned (.tuple #[.int .i32 (hiW d), .int .i32 (wd d)]) ∧ Below w.heap.size w w' := by
  have E1 := Lib.hid (show hiW d = wrap32 (h32 d) from rfl)
  have E2 := Lib.hid (show wd d = wrap32 (l32 d) by unfold l32 wd wrap32; omega)
  obtain ⟨p0, p1⟩ := h32_bd hd
  obtain ⟨q0, q1⟩ := l32_bd d
  go_enter Try.func40, Try.ntmps40
  go_wp2
  go_quiet (fail)
  go_wp2
  go_ret2
  exact ⟨ret_ii E1.out.symm E2.out.symm, below_drewN ((Below.refl _ _).alloc (Nat.le_refl _) _) _⟩
theorem or64 (p q : Int) (p0 : 0 ≤ p) (p1 : p < 4294967296) (q0 : 0 ≤ q) (q1 : q < 4294967296) : bits .or .u64 (p * 4294967296) q = p * 4294967296 + q :=
  bits_join .u64 64 (by decide) (fun n h0 h1 => by simp [IntKind.wrap, IntKind.bits, IntKind.signed]; omega) 32 _ _ (by omega) (by omega) (by omega) q0 (by omega) (by omega)
theorem value_any (d : Nat) (hd : d < 18446744073709551616) (w : World) : Calls Try.prog 56 #[dv d] w fun e w' => e = .returned (.int .u64 (d : Int)) ∧ Below w.heap.size w w' := by
  have E1 := Lib.hid (show h32 d * 4294967296 + l32 d = d by unfold h32 l32; omega)
  obtain ⟨p0, p1⟩ := h32_bd hd
  obtain ⟨q0, q1⟩ := l32_bd d
  have O := Lib.hid (or64 _ _ p0 p1 q0 q1)
  go_enter Try.func56, Try.ntmps56
  go_wp2
  go_ret
  refine ⟨ret_i ?_, (Below.refl _ _).alloc (Nat.le_refl _) _⟩
  rw [O.out, E1.out]
/-- The double word of a word. -/
def ext (v : Int) : Nat := (v % 18446744073709551616).toNat
theorem ext_lt (v : Int) : ext v < 18446744073709551616 := by unfold ext; omega
theorem extend_any (v : Int) (hv : isW v) (w : World) : Calls Try.prog 39 #[.int .i32 v] w fun e w' => e = .returned (dv (ext v)) ∧ Below w.heap.size w w' := by
  have E1 := Lib.hid (show IntKind.u64.wrap v = ((ext v : Nat) : Int) by unfold ext; simp [IntKind.wrap, IntKind.bits, IntKind.signed]; omega)
  have L := ext_lt v
  unfold isW at hv
  obtain ⟨v0, v1⟩ := hv
  generalize ext v = m at *
  have C : ∀ w : World, Calls Try.prog 42 #[.int .u64 (IntKind.u64.wrap v)] w fun e w' => e = .returned (dv m) ∧ Below w.heap.size w w' := by
    rw [E1.out]; exact doubleOf_any m L
  have C' := Lib.hid C
  clear C E1
  go_enter Try.func39, Try.ntmps39
  go_wp2_with (go_at_call 42; refine (C'.out _).mono ?_; rintro e w' ⟨rfl, hb⟩; obtain ⟨hc, hf⟩ := bcell hb; have hz : w.heap.size < w'.heap.size := by have := hb.size; simp at this; omega)
  refine bodyPost_ret (v := dv m) (by simp [results, Try.results39, go_sem, hc]) rfl ⟨rfl, ?_⟩
  exact ((((Below.refl _ _).alloc (Nat.le_refl _) _).trans (hb.mono (by simp))).setCell (by simp) _).setCell (by simp) _

/-! ### Shifts -/
def shlD (d k : Nat) : Nat := d * 2 ^ k % 18446744073709551616
def shrD (d k : Nat) : Nat := d / 2 ^ k
theorem shlD_lt (d k : Nat) : shlD d k < 18446744073709551616 := Nat.mod_lt _ (by decide)
theorem shrD_lt {d : Nat} (hd : d < 18446744073709551616) (k : Nat) : shrD d k < 18446744073709551616 := Nat.lt_of_le_of_lt (Nat.div_le_self _ _) hd
theorem shl_min (d k : Nat) : IntKind.u64.wrap ((d : Int) * 2 ^ min k 64) = (shlD d k : Int) := by
  have e : ((d : Int) * 2 ^ min k 64) = ((d * 2 ^ min k 64 : Nat) : Int) := by simp
  have e2 : shlD d k = shlD d (min k 64) := by
    rcases Nat.le_total k 64 with h | h
    · rw [Nat.min_eq_left h]
    · rw [Nat.min_eq_right h]
      unfold shlD
      obtain ⟨j, rfl⟩ := Nat.exists_eq_add_of_le h
      rw [Nat.pow_add, ← Nat.mul_assoc, Nat.mul_right_comm, show (2 : Nat) ^ 64 = 18446744073709551616 by decide, Nat.mul_mod_left, Nat.mul_mod_left]
  rw [e, e2]
  unfold shlD
  generalize d * 2 ^ min k 64 = x
  simp [IntKind.wrap, IntKind.bits, IntKind.signed]
theorem shr_min (d k : Nat) (hd : d < 18446744073709551616) : ((d : Int) / 2 ^ min k 64) = (shrD d k : Int) := by
  have e : ((d : Int) / 2 ^ min k 64) = ((d / 2 ^ min k 64 : Nat) : Int) := by simp
  rw [e]
  unfold shrD
  rcases Nat.le_total k 64 with h | h
  · rw [Nat.min_eq_left h]
  · rw [Nat.min_eq_right h, Nat.div_eq_of_lt (by simpa using hd), Nat.div_eq_of_lt (Nat.lt_of_lt_of_le hd (Nat.pow_le_pow_right (n := 2) (by decide) h))]
theorem left_any (d : Nat) (hd : d < 18446744073709551616) (n : Int) (hn : 0 ≤ n) (w : World) : Calls Try.prog 52 #[dv d, .int .u32 n] w fun e w' => e = .returned (dv (shlD d n.toNat)) ∧ Below w.heap.size w w' := by
  have C : ∀ w : World, Calls Try.prog 42 #[.int .u64 (IntKind.u64.wrap ((d : Int) * 2 ^ min n.toNat 64))] w fun e w' => e = .returned (dv (shlD d n.toNat)) ∧ Below w.heap.size w w' := by
    rw [shl_min]; exact doubleOf_any _ (shlD_lt _ _)
  have C' := Lib.hid C
  clear C
  go_enter Try.func52, Try.ntmps52
  go_wp2_with (first | (go_at_call 56; refine (value_any _ hd _).mono ?_; rintro e w1 ⟨rfl, hb1⟩; obtain ⟨hc1, hf1⟩ := bcell hb1; have hz1 : w.heap.size + 1 < w1.heap.size := by have := hb1.size; simp at this; omega) | (go_at_call 42; refine (C'.out _).mono ?_; rintro e w2 ⟨rfl, hb2⟩; obtain ⟨hc2, hf2⟩ := bcell hb2))
  refine bodyPost_ret (v := dv (shlD d n.toNat)) (by simp [results, Try.results52, go_sem, hc1, hc2, hz1]) rfl ⟨rfl, ?_⟩
  exact (((((((Below.refl _ _).alloc (Nat.le_refl _) _).alloc (by simp) _).trans (hb1.mono (by simp; omega))).trans (hb2.mono (by omega))).setCell (by simp) _).setCell (by simp) _)
theorem right_any (d : Nat) (hd : d < 18446744073709551616) (n : Int) (hn : 0 ≤ n) (w : World) : Calls Try.prog 53 #[dv d, .int .u32 n] w fun e w' => e = .returned (dv (shrD d n.toNat)) ∧ Below w.heap.size w w' := by
  have C : ∀ w : World, Calls Try.prog 42 #[.int .u64 ((d : Int) / 2 ^ min n.toNat 64)] w fun e w' => e = .returned (dv (shrD d n.toNat)) ∧ Below w.heap.size w w' := by
    rw [shr_min _ _ hd]; exact doubleOf_any _ (shrD_lt hd _)
  have C' := Lib.hid C
  clear C
  go_enter Try.func53, Try.ntmps53
  go_wp2_with (first | (go_at_call 56; refine (value_any _ hd _).mono ?_; rintro e w1 ⟨rfl, hb1⟩; obtain ⟨hc1, hf1⟩ := bcell hb1; have hz1 : w.heap.size + 1 < w1.heap.size := by have := hb1.size; simp at this; omega) | (go_at_call 42; refine (C'.out _).mono ?_; rintro e w2 ⟨rfl, hb2⟩; obtain ⟨hc2, hf2⟩ := bcell hb2))
  refine bodyPost_ret (v := dv (shrD d n.toNat)) (by simp [results, Try.results53, go_sem, hc1, hc2, hz1]) rfl ⟨rfl, ?_⟩
  exact (((((((Below.refl _ _).alloc (Nat.le_refl _) _).alloc (by simp) _).trans (hb1.mono (by simp; omega))).trans (hb2.mono (by omega))).setCell (by simp) _).setCell (by simp) _)

theorem Shl_any (hi lo n : Int) (w : World) : Calls Try.prog 28 #[.int .i32 hi, .int .i32 lo, .int .i32 n] w fun e w' => e = .returned (.tuple #[.int .i32 (hiW (shlD (DW hi lo) (U n))), .int .i32 (wd (shlD (DW hi lo) (U n)))]) ∧ Below w.heap.size w w' := by
  have hp : 0 ≤ n % 4294967296 := by omega
  go_enter Try.func28, Try.ntmps28
  go_wp2_with (first
    | (go_at_call 41; refine (join_any _ _ _).mono ?_; rintro e w1 ⟨rfl, hb1⟩)
    | (go_at_call 52; refine (left_any _ (DW_lt _ _) _ hp _).mono ?_; rintro e w2 ⟨rfl, hb2⟩)
    | (go_at_call 40; refine (words_any _ (shlD_lt _ _) _).mono ?_; rintro e w3 ⟨rfl, hb3⟩)
    | go_in)
  go_ret2
  exact ⟨rfl, (hb1.trans (hb2.mono hb1.size)).trans (hb3.mono (Nat.le_trans hb1.size hb2.size))⟩
theorem Shr_any (hi lo n : Int) (w : World) : Calls Try.prog 30 #[.int .i32 hi, .int .i32 lo, .int .i32 n] w fun e w' => e = .returned (.tuple #[.int .i32 (hiW (shrD (DW hi lo) (U n))), .int .i32 (wd (shrD (DW hi lo) (U n)))]) ∧ Below w.heap.size w w' := by
  have hp : 0 ≤ n % 4294967296 := by omega
  go_enter Try.func30, Try.ntmps30
  go_wp2_with (first
    | (go_at_call 41; refine (join_any _ _ _).mono ?_; rintro e w1 ⟨rfl, hb1⟩)
    | (go_at_call 53; refine (right_any _ (DW_lt _ _) _ hp _).mono ?_; rintro e w2 ⟨rfl, hb2⟩)
    | (go_at_call 40; refine (words_any _ (shrD_lt (DW_lt _ _) _) _).mono ?_; rintro e w3 ⟨rfl, hb3⟩)
    | go_in)
  go_ret2
  exact ⟨rfl, (hb1.trans (hb2.mono hb1.size)).trans (hb3.mono (Nat.le_trans hb1.size hb2.size))⟩
/-- The high word of a word that is extended. -/
def sgn (v : Int) : Int := if v < 0 then -1 else 0
theorem ext_hi {v : Int} (hv : isW v) : hiW (ext v) = sgn v := by
  unfold isW at hv
  unfold ext hiW wd wrap32 sgn
  split <;> omega
theorem ext_lo {v : Int} (hv : isW v) : wd (ext v) = v := by
  unfold isW at hv
  unfold ext wd wrap32
  omega
theorem Xdble_any (v : Int) (hv : isW v) (w : World) : Calls Try.prog 15 #[.int .i32 v] w fun e w' => e = .returned (.tuple #[.int .i32 v, .int .i32 (sgn v)]) ∧ Below w.heap.size w w' := by
  have E1 := Lib.hid (ext_hi hv)
  have E2 := Lib.hid (ext_lo hv)
  go_enter Try.func15, Try.ntmps15
  go_wp2_with (first
    | (go_at_call 39; refine (extend_any _ hv _).mono ?_; rintro e w1 ⟨rfl, hb1⟩)
    | (go_at_call 40; refine (words_any _ (ext_lt _) _).mono ?_; rintro e w3 ⟨rfl, hb3⟩))
  go_ret2
  exact ⟨ret_ii E2.out E1.out, hb1.trans (hb3.mono hb1.size)⟩
/-! ### Structs compared -/
theorem eq_dv (a b : Nat) (w : World) : (Op.equalIn 10000 45 (dv a) (dv b)).run Try.prog w = .ok (h32 a == h32 b && l32 a == l32 b) w := by
  have u3 := Try.underlying37
  have a3 := Try.isAgg37
  have z3 := Try.sizeOf37
  have hS : Try.prog.underlying 45 = some (.struct (Try.prog.fieldsOf 45)) := by kernel_rfl
  have hp : Try.prog.stoodInHeld 45 = false := by kernel_rfl
  rw [show (10000 : Nat) = 9999 + 1 from rfl, run_equalIn_agg w 9999 45 _ _ hS hp]
  simp only [Program.fieldsOf, Try.underlying45]
  go_simp
  by_cases h1 : h32 a = h32 b <;> by_cases h2 : l32 a = l32 b <;> simp [h1, h2]
theorem guard_dv : Try.prog.eqGuardType Try.prog.depth 45 = false := by kernel_rfl
theorem neq_dv (a b : Nat) (w : World) : (binOp .neq 45 (dv a) (dv b)).run Try.prog w = .ok (.bool (!(h32 a == h32 b && l32 a == l32 b))) w := by
  rw [run_neq_struct, eq_dv]; rfl
theorem eql_dv (a b : Nat) (w : World) : (binOp .eql 45 (dv a) (dv b)).run Try.prog w = .ok (.bool (h32 a == h32 b && l32 a == l32 b)) w := by
  rw [run_eql_struct, eq_dv]; rfl
theorem csn (lo hi : Int) (hv : isW lo) (hh : isW hi) : (!(h32 (DW hi lo) == h32 (ext lo) && l32 (DW hi lo) == l32 (ext lo))) = (hi != sgn lo) := by
  unfold isW at hv hh
  have e1 : h32 (DW hi lo) = hi % 4294967296 := by have := U_cast hi; have := U_lt lo; unfold h32 DW; omega
  have e2 : l32 (DW hi lo) = lo % 4294967296 := by have := U_cast lo; have := U_lt hi; unfold l32 DW; omega
  have e3 : h32 (ext lo) = sgn lo % 4294967296 := by unfold ext h32 sgn; split <;> omega
  have e4 : l32 (ext lo) = lo % 4294967296 := by unfold ext l32; omega
  rw [e1, e2, e3, e4, bne]
  have e5 : (hi % 4294967296 == sgn lo % 4294967296) = (hi == sgn lo) := by
    have : hi % 4294967296 = sgn lo % 4294967296 ↔ hi = sgn lo := by unfold sgn; split <;> omega
    rw [Bool.eq_iff_iff, beq_iff_eq, beq_iff_eq, this]
  rw [e5, BEq.rfl, Bool.and_true]
end Go.Proofs.Ytikfbooihacjfaa
