/- The reference: the text of a token. -/
import Derived.Test.YtldnmdadlgjbgaaGreatDoorRlj
import Derived.Test.YtldnmdadlgjbgaaGreatDoorRlc
import Derived.Test.YtldnmdadlgjbgaaGreatDoorLxe
import Derived.Test.YtldnmdadlgjbgaaGreatDoorWd
set_option linter.unusedVariables false
set_option linter.unusedSimpArgs false
namespace Go.Proofs.YtldnmdadlgjbgaaGreatDoor
open Go Go.RowKit L8

theorem RText1_any (v : Int) (hex : Bool) (h0 : -2147483648 ≤ v) (h1 : v ≤ 2147483647) (w : World) : Calls Tryz.prog 63 #[.int .i32 v, .bool hex] w fun e w' => e = .returned (.string (strOf (textL v hex))) ∧ Below w.heap.size w w' :=
  (W1.RText_any v hex ⟨h0, h1⟩ w).mono fun e w' h => ⟨h.1, by obtain ⟨n, rfl⟩ := h.2; exact bdrew (b0 w) n⟩
theorem one_num {k : Nat} {a n : Int} {tx : Bs} (h : k = 3) : one ⟨k, a, tx, n⟩ = textL n (decide (n < 0)) := by unfold one; rw [if_pos h]
theorem one_byte {k : Nat} {a n : Int} {tx : Bs} (h : k = 4) : one ⟨k, a, tx, n⟩ = 39 :: (shown n ++ [39]) := by unfold one; dsimp only; rw [if_neg (by omega), if_pos h]
theorem one_text {k : Nat} {a n : Int} {tx : Bs} (h3 : k ≠ 3) (h4 : k ≠ 4) : one ⟨k, a, tx, n⟩ = tx := by unfold one; dsimp only; rw [if_neg h3, if_neg h4]
set_option maxRecDepth 100000 in
set_option maxHeartbeats 8000000 in
theorem ROne_any (t : Tk) (hx : OKx t) (hb : t.k = 4 → 0 ≤ t.n ∧ t.n ≤ 255) (w : World) : Calls Tryz.prog 44 #[rwV t] w fun e w' => e = .returned (.string (strOf (one t))) ∧ Below w.heap.size w w' := by
  obtain ⟨k, a, tx, n⟩ := t
  have hk256 : (k : Int) < 256 := by have := hx.2.1; dsimp only at this; omega
  have hk0 : (0 : Int) ≤ (k : Int) := by omega
  have n0 : -2147483648 ≤ n := hx.2.2.1
  have n1 : n ≤ 2147483647 := hx.2.2.2
  have bV := Lib.hid (bal (b0 w) (.cells #[.int .u8 (k : Int), .int .i64 a, .string (strOf tx), .int .i32 n] 26))
  clear hx
  dsimp only at hb
  dsimp only [rwV]
  by_cases h3 : k = 3
  · rw [one_num h3]
    subst h3
    have C := Lib.hid (fun (W : World) => RText1_any n (decide (n < 0)) n0 n1 W)
    clear hb n0 n1
    generalize strOf tx = TX at *
    generalize strOf (textL n (decide (n < 0))) = S at *
    go_enter Tryz.func44, Tryz.ntmps44
    go_wp2_with (go_at_call 63; (refine (C.out _).mono ?_); rintro e v1 ⟨rfl, b⟩; have B1 := Lib.hid (blw bV.out b); clear b)
    go_ret
    exact ⟨rfl, B1.out⟩
  by_cases h4 : k = 4
  · rw [one_byte h4]
    obtain ⟨g0, g1⟩ := hb h4
    subst h4
    obtain ⟨v, rfl⟩ : ∃ v : Nat, n = (v : Int) := ⟨n.toNat, by omega⟩
    have C := Lib.hid (fun (W : World) => Rshown_any v (by omega) W)
    have hl := shown_len (v : Int)
    have c1 : Op.stringOp .add ⟨#[39]⟩ (strOf (shown (v : Int))) = pure (.string (strOf ([39] ++ shown (v : Int)))) := cat_str [39] (shown (v : Int)) (by simp; omega)
    have c2 : Op.stringOp .add (strOf ([39] ++ shown (v : Int))) ⟨#[39]⟩ = pure (.string (strOf (39 :: (shown (v : Int) ++ [39])))) := cat_str ([39] ++ shown (v : Int)) [39] (by simp; omega)
    clear hl n0 n1 g0 g1
    generalize strOf tx = TX at *
    generalize strOf ([39] ++ shown (v : Int)) = S1 at *
    generalize strOf (39 :: (shown (v : Int) ++ [39])) = S2 at *
    generalize strOf (shown (v : Int)) = S3 at *
    go_enter Tryz.func44, Tryz.ntmps44
    go_wp2_with (go_at_call 64; (refine (C.out _).mono ?_); rintro e v1 ⟨rfl, b⟩; have B1 := Lib.hid (blw bV.out b); clear b)
    go_ret
    exact ⟨rfl, B1.out⟩
  · rw [one_text h3 h4]
    have e3 : ((k : Int) == 3) = false := by simp; omega
    have e4 : ((k : Int) == 4) = false := by simp; omega
    clear h3 h4 hb n0 n1
    generalize strOf tx = TX at *
    go_enter Tryz.func44, Tryz.ntmps44
    go_wp2
    go_ret
    exact ⟨rfl, bV.out⟩
end Go.Proofs.YtldnmdadlgjbgaaGreatDoor
