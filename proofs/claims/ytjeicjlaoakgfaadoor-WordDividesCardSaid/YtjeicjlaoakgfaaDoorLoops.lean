/- Contracts of the loops of the reference of layer 1: shifting place by place. -/
import Derived.Test.YtjeicjlaoakgfaaDoorRefs
namespace Go.Proofs.YtjeicjlaoakgfaaDoor
open Go Go.RowKit

theorem wrap32_twice (a : Int) (k : Nat) : wrap32 (2 * wrap32 (a * 2 ^ k)) = wrap32 (a * 2 ^ (k + 1)) := by
  rw [Int.pow_succ, ← Int.mul_assoc]
  generalize a * 2 ^ k = x
  unfold wrap32
  omega
theorem RShl_any (a n : Int) (ha : isW a) (hn : isW n) (w : World) : Calls Tryd.prog 30 #[.int .i32 a, .int .i32 n] w fun e w' => e = .returned (.int .i32 (shlR a n)) ∧ w = w' := by
  have hs : wrap32 (a * 2 ^ 0) = a := by rw [Int.pow_zero, Int.mul_one]; exact wrap32_in ha
  have Hs := Lib.hid hs
  clear hs
  go_enter Tryd.func30, Tryd.ntmps30
  go_wp2
  go_loop [5, 6] (fun t i => ∃ k : Nat, k ≤ plc n ∧ i = .int .i64 k ∧ t = .int .i32 (wrap32 (a * 2 ^ k))) (fun _ i => 32 - (intOf i).toNat)
  case atStart => exact ⟨0, Nat.zero_le _, rfl, by rw [Hs.out]⟩
  case round =>
    obtain ⟨k, hk, rfl, rfl⟩ := hrel
    have hk' := hk
    unfold plc at hk'
    have hW := isW_wrap32 (a * 2 ^ k)
    by_cases hlt : k < plc n
    · have hlt' := hlt
      unfold plc at hlt'
      have c1 : (k : Int) < n % 4294967296 := by omega
      have c2 : k < 32 := by omega
      have Ht := Lib.hid (wrap32_twice a k)
      generalize hx : wrap32 (a * 2 ^ k) = x at *
      have Hx := Lib.hid hx
      clear hx
      have hd : isD (2 * x) := by unfold isW at hW; exact ⟨by omega, by omega⟩
      have hW' := hW
      obtain ⟨x0, x1⟩ := hW'
      clear hk' hlt'
      go_wp2_with (first | (go_at_call 53; refine (Unsigned_any _ hn _).mono ?_; rintro e w' ⟨rfl, rfl⟩) | (go_at_call 48; refine (Wrap_any _ hd _).mono ?_; rintro e w' ⟨rfl, rfl⟩))
      go_round
      case rel => exact ⟨k + 1, by omega, by go_num, by rw [Ht.out]⟩
      case measure => simp [intOf]; omega
    · have hkn : k = plc n := by omega
      have c1 : ¬ ((k : Int) < n % 4294967296 ∧ k < 32) := by unfold plc at hlt; omega
      have hfin : wrap32 (a * 2 ^ k) = shlR a n := by unfold shlR; rw [hkn]
      have Hf := Lib.hid hfin
      clear hfin hkn
      by_cases c2 : (k : Int) < n % 4294967296
      · have c3 : ¬ k < 32 := fun h => c1 ⟨c2, h⟩
        go_wp2_with (first | (go_at_call 53; refine (Unsigned_any _ hn _).mono ?_; rintro e w' ⟨rfl, rfl⟩))
        go_ret
        exact ⟨ret_i Hf.out, rfl⟩
      · go_wp2_with (first | (go_at_call 53; refine (Unsigned_any _ hn _).mono ?_; rintro e w' ⟨rfl, rfl⟩))
        go_ret
        exact ⟨ret_i Hf.out, rfl⟩
theorem half_pow (x : Int) (k : Nat) : x / 2 ^ k / 2 = x / 2 ^ (k + 1) := by
  rw [Int.pow_succ, Int.ediv_ediv_of_nonneg (Int.pow_nonneg (by omega))]
theorem shr_bd (a : Int) (k : Nat) : 0 ≤ a % 4294967296 / 2 ^ k ∧ a % 4294967296 / 2 ^ k ≤ 4294967295 := by
  have h0 : 0 ≤ a % 4294967296 := by omega
  refine ⟨Int.ediv_nonneg h0 (Int.pow_nonneg (by omega)), ?_⟩
  have := Int.ediv_le_self (b := 2 ^ k) h0
  omega
theorem RShr_any (a n : Int) (ha : isW a) (hn : isW n) (w : World) : Calls Tryd.prog 32 #[.int .i32 a, .int .i32 n] w fun e w' => e = .returned (.int .i32 (shrR a n)) ∧ w = w' := by
  have hs : a % 4294967296 / 2 ^ 0 = a % 4294967296 := by rw [Int.pow_zero, Int.ediv_one]
  have Hs := Lib.hid hs
  clear hs
  go_enter Tryd.func32, Tryd.ntmps32
  go_wp2_with (first | (go_at_call 53; refine (Unsigned_any _ ha _).mono ?_; rintro e w' ⟨rfl, rfl⟩))
  go_loop [5, 6] (fun t i => ∃ k : Nat, k ≤ plc n ∧ i = .int .i64 k ∧ t = .int .i64 (a % 4294967296 / 2 ^ k)) (fun _ i => 32 - (intOf i).toNat)
  case atStart => exact ⟨0, Nat.zero_le _, rfl, by rw [Hs.out]⟩
  case round =>
    obtain ⟨k, hk, rfl, rfl⟩ := hrel
    have hk' := hk
    unfold plc at hk'
    obtain ⟨x0, x1⟩ := shr_bd a k
    by_cases hlt : k < plc n
    · have hlt' := hlt
      unfold plc at hlt'
      have c1 : (k : Int) < n % 4294967296 := by omega
      have c2 : k < 32 := by omega
      have Ht := Lib.hid (half_pow (a % 4294967296) k)
      generalize hx : a % 4294967296 / 2 ^ k = x at *
      have Hx := Lib.hid hx
      clear hx
      clear hk' hlt'
      go_wp2_with (first | (go_at_call 53; refine (Unsigned_any _ hn _).mono ?_; rintro e w' ⟨rfl, rfl⟩))
      go_round
      case rel => exact ⟨k + 1, by omega, by go_num, by rw [Ht.out]⟩
      case measure => simp [intOf]; omega
    · have hkn : k = plc n := by omega
      have c1 : ¬ ((k : Int) < n % 4294967296 ∧ k < 32) := by unfold plc at hlt; omega
      have hfin : wrap32 (a % 4294967296 / 2 ^ k) = shrR a n := by unfold shrR; rw [hkn]
      have hd : isD (a % 4294967296 / 2 ^ k) := ⟨by omega, by omega⟩
      have Hf := Lib.hid hfin
      clear hfin hkn
      by_cases c2 : (k : Int) < n % 4294967296
      · have c3 : ¬ k < 32 := fun h => c1 ⟨c2, h⟩
        go_wp2_with (first | (go_at_call 53; refine (Unsigned_any _ hn _).mono ?_; rintro e w' ⟨rfl, rfl⟩) | (go_at_call 48; refine (Wrap_any _ hd _).mono ?_; rintro e w' ⟨rfl, rfl⟩))
        go_ret
        exact ⟨ret_i Hf.out, rfl⟩
      · go_wp2_with (first | (go_at_call 53; refine (Unsigned_any _ hn _).mono ?_; rintro e w' ⟨rfl, rfl⟩) | (go_at_call 48; refine (Wrap_any _ hd _).mono ?_; rintro e w' ⟨rfl, rfl⟩))
        go_ret
        exact ⟨ret_i Hf.out, rfl⟩
end Go.Proofs.YtjeicjlaoakgfaaDoor
